/- The specification's DrawSwings: whatever the bytes, a list of numbers in new memory. -/
import Derived.Test.YtliodmahbdmcbaaDrawHull
import Derived.Test.YtliodmahbdmcbaaSwD
import Derived.Test.YtliodmahbdmcbaaOwnInts
import Derived.Maps.AppendAt
namespace Go.Proofs.Ytliodmahbdmcbaa
open Go.RowKit

theorem kept_past {T : Nat → Prop} {w w2 w3 : World} (h : Kept T w w2) (h' : Kept (fun b => w.heap.size ≤ b) w2 w3) : Kept T w w3 :=
  ⟨h'.os.trans h.os, h'.tape.trans h.tape, h'.output.trans h.output, Nat.le_trans h.size h'.size, fun k hk hT => (h'.block k (Nat.lt_of_lt_of_le hk h.size) (by omega)).trans (h.block k hk hT)⟩

theorem made_ints (w : World) (n : Nat) (hn : n ≤ 1000) : IntsIn (w.alloc (.cells (madeCells #[.int .i64 0] n) 3)) (.slice (some ⟨w.heap.size, 0, none⟩) n n) (List.replicate n 0) := by
  have h := rowIs_ownV (vs := ints (List.replicate n 0)) (World.rowIs_made w (.int .i64 0) n 3) (by simp [ints]) (fun i hi => by simp [ints, hi])
  have := h.intsIn (cap := n) (by simp) (by unfold maxLen; omega)
  simpa using this

theorem l1Size_any (ao : Option Addr) (n cap : Nat) (w : World) (hn : n ≤ 1048576) :
    Calls Try.prog 67 #[.slice ao n cap, .int .i64 30] w fun e w' => ∃ x, e = .returned (.int .i64 x) ∧ 2 ≤ x ∧ x ≤ 30 ∧ w = w' := by
  by_cases h : 2 + (n : Int) / 20 ≤ 30
  · have h0 : 0 ≤ (n : Int) / 20 := by omega
    go_enter Try.func67, Try.ntmps67
    go_wp2
    go_ret
    exact ⟨_, rfl, by omega, by omega, rfl⟩
  · have h0 : 0 ≤ (n : Int) / 20 := by omega
    have h1 : (30 : Int) < 2 + (n : Int) / 20 := by omega
    go_enter Try.func67, Try.ntmps67
    go_wp2
    go_ret
    exact ⟨_, rfl, by omega, by omega, rfl⟩

set_option maxHeartbeats 800000 in
theorem pick3_any (cb n : Nat) (v : Value) (g : Nat) (x y z : Int) (w : World) (h : Cur w cb v n) (hn : n ≤ 1048576) (hg : OwnV w g [.int .i64 x, .int .i64 y, .int .i64 z]) (hne : g ≠ cb) :
    Calls Try.prog 68 #[.pointer (some ⟨cb, 0, none⟩), .slice (some ⟨g, 0, none⟩) 3 3] w fun e w' => ∃ u, e = .returned (.int .i64 u) ∧ Cur w' cb v n ∧ Kept (fun b => b = cb) w w' := by
  have HB := hide (l1Below_any cb n v 3 w h hn (by omega) (by omega))
  have HG := hide hg
  clear h hg
  go_enter Try.func68, Try.ntmps68
  go_wp2_with fail
  refine (unhide HB).mono ?_
  rintro e w1 ⟨i, rfl, hi0, hi1, hc, hK⟩
  have hg1 := (unhide HG).kept hK hne
  have HC := hide hc
  have HK := hide hK
  clear hc hK HB HG
  obtain ⟨j, rfl⟩ : ∃ j : Nat, i = j := ⟨i.toNat, by omega⟩
  obtain ⟨u, hu⟩ : ∃ u, w1.cell? ⟨g, j, none⟩ = some (.int .i64 u) := by
    match j, hi1 with
    | 0, _ => exact ⟨x, hg1.cell rfl⟩
    | 1, _ => exact ⟨y, hg1.cell rfl⟩
    | 2, _ => exact ⟨z, hg1.cell rfl⟩
    | j + 3, h => omega
  clear hg1
  go_wp2
  go_ret
  exact ⟨u, rfl, unhide HC, unhide HK⟩

set_option maxHeartbeats 2000000 in
theorem l3DrawHistory_any (cb nb : Nat) (v : Value) (w : World) (h : Cur w cb v nb) (hn : nb ≤ 1048576) :
    Calls Try.prog 45 #[.pointer (some ⟨cb, 0, none⟩), v] w fun e w' => ∃ u L, e = .returned u ∧ IntsIn w' u L ∧ Kept (fun b => b = cb) w w' := by
  have hcb := h.lt
  have HC := hide h
  obtain ⟨vao, vcap, rfl, _, _, _⟩ := h.1
  clear h
  obtain ⟨j0, hj, hy0, hy1, hy2⟩ := info_parts Try.info3
  have A1 := Below.alloc1 w (.cells #[] 3)
  have HO : Hid ((w.alloc (.cells #[] 3)).ownsRow w.heap.size 3 1 (.slice (some ⟨w.heap.size, 0, none⟩) 0 0) 0 (ints [])) :=
    ⟨rfl, Or.inr ⟨w.heap.size, 0, #[], rfl, Nat.le_refl _, Go.Deep.blk_alloc_new _ _, Nat.le_refl _, Nat.zero_le _, rfl, rfl⟩⟩
  have HC1 := hide ((unhide HC).below A1)
  have HK1 : Hid (Kept (fun b => b = cb) w (w.alloc (.cells #[] 3))) := kept_of_below A1
  clear A1
  go_enter Try.func45, Try.ntmps45
  go_wp2_with (go_at_call 67; refine (l1Size_any vao nb vcap _ hn).mono ?_; rintro e w' ⟨sz, rfl, hs0, hs1, rfl⟩)
  refine (l1Below_any cb nb _ (2 * sz) _ (unhide HC1) hn (by omega) (by omega)).mono ?_
  rintro e w1 ⟨m, rfl, hm0, hm1, hc, hK⟩
  obtain ⟨M, rfl⟩ : ∃ M : Nat, m = M := ⟨m.toNat, by omega⟩
  have hrow : w1.ownsRow w.heap.size 3 1 (.slice (some ⟨w.heap.size, 0, none⟩) 0 0) 0 (ints []) := ownsRow_keptT (unhide HO) hK (fun k hk e => by omega)
  replace HO := hide hrow
  replace HC1 := hide hc
  replace HK1 := hide ((unhide HK1).trans hK)
  have hM : M < 60 := by omega
  clear hc hK hrow HC hm0 hm1 hs0 hs1
  go_wp2
  go_loopg [5, 6, 7] M (fun g ov xv iv wr => ∃ xs : List Int, ∃ x : Int, iv = .int .i64 (g : Int) ∧ xs.length + g ≤ 60 ∧ xv = .int .i64 x ∧ x ≤ 300 - 5 * (g : Int) ∧ 5 * (g : Int) - 300 ≤ x ∧ Hid (wr.ownsRow w.heap.size 3 1 ov xs.length (ints xs)) ∧ Hid (Cur wr cb (.slice vao nb vcap) nb) ∧ Hid (Kept (fun b => b = cb) w wr))
  case atStart => exact ⟨[], 0, rfl, by simp; omega, rfl, by omega, by omega, HO, HC1, HK1⟩
  case round =>
    clear HO HC1 HK1 hM
    obtain ⟨xs, x, rfl, hl, rfl, hx1, hx2, HO, HC, HK⟩ := hrel
    obtain ⟨_, sa, sc, rfl⟩ := ownsRow_ownSl (unhide HO)
    by_cases hg : 0 < gk
    · have hgi : (0 : Int) < gk := by omega
      go_wp2_with fail
      refine (l1Below_any cb nb _ 11 _ (unhide HC) hn (by omega) (by omega)).mono ?_
      rintro e w2 ⟨t, rfl, ht0, ht1, hc, hK⟩
      replace HO := hide (ownsRow_keptT (unhide HO) hK (fun k hk e => by omega))
      replace HC := hide hc
      replace HK := hide ((unhide HK).trans hK)
      have hz : w.heap.size ≤ w2.heap.size := (unhide HK).size
      clear hc hK
      go_wp2_with (at_builtin; go_must (refine wpList_append_own_at _ rfl _ _ 24 rfl w.heap.size 3 j0 (.int .i64 0) 1 8 Try.underlying24 hj hy0 hy1 hy2 rfl (by decide) (.slice sa xs.length sc) xs.length (ints xs) rfl ((unhide HO).alloc _) ⟨w2.heap.size, 0, none⟩ 1 1 [.int .i64 (x + t - 5)] rfl rfl (cell_one_new _ _ _) (by simp [Value.oneCell']) (by unfold maxLen; omega) (by omega) (by simp; omega) ?_; intro v' w3 hown hgrow _ hat; have HO3 : Hid (w3.ownsRow w.heap.size 3 1 v' (xs ++ [x + t - 5]).length (ints (xs ++ [x + t - 5]))) := hide (by rw [ints_snoc1]; simpa using hown); have HK3 : Hid (Kept (fun b => w.heap.size ≤ b) w2 w3) := (kept_of_below (Below.alloc1 w2 _)).trans ⟨hgrow.os, hgrow.tape, hgrow.output, hgrow.size, fun k hk hn => hgrow.block k hk (fun e => hn ((unhide HO).lt k e.symm).1)⟩; clear hown hgrow hat))
      go_roundg (gk - 1)
      case measure => omega
      case rel => exact ⟨xs ++ [x + t - 5], x + t - 5, by congr 1; omega, by simp; omega, rfl, by omega, by omega, HO3, (unhide HC).kept (unhide HK3) (fun b hb => by omega), kept_past (unhide HK) (unhide HK3)⟩
    · have hgi : decide ((0 : Int) < (gk : Int)) = false := by simp; omega
      clear hx1 hx2
      go_wp2_with fail
      refine (l1Below_any cb nb _ 30 _ (unhide HC) hn (by omega) (by omega)).mono ?_
      rintro e w2 ⟨t, rfl, ht0, ht1, hc, hK⟩
      replace HO := hide (ownsRow_keptT (unhide HO) hK (fun k hk e => by omega))
      replace HC := hide hc
      replace HK := hide ((unhide HK).trans hK)
      have hz : w.heap.size ≤ w2.heap.size := (unhide HK).size
      clear hc hK
      by_cases h0 : t = 0
      · subst h0
        have A3 := Below.alloc1 w2 (.cells #[.int .i64 1000000000, .int .i64 1000000001, .int .i64 (-1000000001)] 3)
        have HP := hide (pick3_any cb nb _ w2.heap.size 1000000000 1000000001 (-1000000001) _ ((unhide HC).below A3) hn (ownV_alloc w2 #[.int .i64 1000000000, .int .i64 1000000001, .int .i64 (-1000000001)] 3) (by have := (unhide HC).lt; omega))
        have HK3 : Hid (Kept (fun b => b = cb) w (w2.alloc (.cells #[.int .i64 1000000000, .int .i64 1000000001, .int .i64 (-1000000001)] 3))) := (unhide HK).trans (kept_of_below A3)
        replace HO := hide ((unhide HO).alloc (.cells #[.int .i64 1000000000, .int .i64 1000000001, .int .i64 (-1000000001)] 3))
        clear A3
        go_wp2_with (first | (go_at_call 68; refine (unhide HP).mono ?_; rintro e w3 ⟨u, rfl, hc, hK⟩; replace HO := hide (ownsRow_keptT (unhide HO) hK (fun k hk e => by omega)); replace HK3 := hide ((unhide HK3).trans hK); have hz3 : w.heap.size ≤ w3.heap.size := (unhide HK3).size; clear hc hK HP) | (at_builtin; go_must (refine wpList_append_own_at _ rfl _ _ 24 rfl w.heap.size 3 j0 (.int .i64 0) 1 8 Try.underlying24 hj hy0 hy1 hy2 rfl (by decide) (.slice sa xs.length sc) xs.length (ints xs) rfl ((unhide HO).alloc _) ⟨w3.heap.size, 0, none⟩ 1 1 [.int .i64 u] rfl rfl (cell_one_new _ _ _) (by simp [Value.oneCell']) (by unfold maxLen; omega) (by omega) (by simp; omega) ?_; intro v' w4 hown hgrow _ hat; have HO4 : Hid (w4.ownsRow w.heap.size 3 1 v' (xs ++ [u]).length (ints (xs ++ [u]))) := hide (by rw [ints_snoc1]; simpa using hown); have HK4 : Hid (Kept (fun b => w.heap.size ≤ b) w3 w4) := (kept_of_below (Below.alloc1 w3 _)).trans ⟨hgrow.os, hgrow.tape, hgrow.output, hgrow.size, fun k hk hn => hgrow.block k hk (fun e => hn ((unhide HO).lt k e.symm).1)⟩; clear hown hgrow hat)))
        go_ret
        exact ⟨_, xs ++ [u], rfl, (ownsRow_ownSl (unhide HO4)).1.upto.inn, kept_past (unhide HK3) (unhide HK4)⟩
      · by_cases h1 : t = 1
        · subst h1
          go_wp2_with fail
          refine (l1Below_any cb nb _ 2 _ (unhide HC) hn (by omega) (by omega)).mono ?_
          rintro e w3 ⟨y, rfl, hy3, hy4, hc, hK⟩
          replace HK := hide ((unhide HK).trans hK)
          obtain ⟨N, eN⟩ : ∃ N : Nat, (N : Int) = 200 + y := ⟨(200 + y).toNat, by omega⟩
          have hmk := run_make_row' (P := Try.prog) 24 3 (.int .i64 0) 8 Try.underlying24 Try.info3 rfl .i64 .i64 N (by omega) (by omega)
          rw [eN] at hmk
          have hN : N ≤ 1000 := by omega
          clear hc hK
          go_wp2
          go_ret
          exact ⟨_, List.replicate N 0, rfl, made_ints w3 N hN, (unhide HK).trans (kept_of_below (Below.alloc1 _ _))⟩
        · have e0 : (t == 0) = false := by rw [beq_eq_false_iff_ne]; exact h0
          have e1 : (t == 1) = false := by rw [beq_eq_false_iff_ne]; exact h1
          go_wp2
          go_ret
          exact ⟨_, xs, rfl, (ownsRow_ownSl (unhide HO)).1.upto.inn, unhide HK⟩

theorem drawSwings_any (v : Value) (nb : Nat) (w : World) (h : BytesIn w.heap.size w v nb) (hn : nb ≤ 1048576) :
    Calls Try.prog 20 #[v] w fun e w' => ∃ u L, e = .returned u ∧ IntsIn w' u L ∧ Below w.heap.size w w' := by
  have H1 := hide (l1New_any v nb w h hn)
  obtain ⟨vao, vcap, rfl, _, _, _⟩ := h
  go_enter Try.func20, Try.ntmps20
  go_wp2_with fail
  refine (unhide H1).mono ?_
  rintro e w1 ⟨rfl, hc, hb, hz⟩
  have HD := hide (l3DrawHistory_any _ nb _ w1 hc hn)
  have HB := hide hb
  clear hb hc H1
  go_wp2_with fail
  refine (unhide HD).mono ?_
  rintro e w2 ⟨u, L, rfl, hI, hK⟩
  have HI := hide hI
  have HB2 := hide ((unhide HB).trans (hK.below (by omega) (fun k e => by omega)))
  clear hI hK HB HD
  go_wp2
  go_ret
  exact ⟨u, L, rfl, unhide HI, unhide HB2⟩

end Go.Proofs.Ytliodmahbdmcbaa
