/- Contracts of l3All and stripsOk, and of both sides' Shear2. -/
import Derived.Test.YtliodmahbdmcbaaSgA
import Derived.Deep.AppendLies
import Derived.Deep.RegionLaw
import Derived.Deep.RegionHeld3
namespace Go.Proofs.Ytliodmahbdmcbaa
open Go.RowKit

set_option maxHeartbeats 400000 in
theorem l3All_any (v : Value) (xs : List Int) (a b : Int) (w : World) (h : IntsIn w v xs) :
    Calls Try.prog 55 #[v, .int .i64 a, .int .i64 b] w fun e w' => e = .returned (.bool (xs.all fun x => inB x a b)) ∧ w = w' := by
  obtain ⟨ao, cap, rfl, hl, hm, hc⟩ := h
  unfold maxLen at hm
  have HC := hide hc
  clear hc
  go_enter Try.func55, Try.ntmps55
  go_wp2
  go_loopg [7] xs.length (fun g i wr => w = wr ∧ ∃ k : Nat, k ≤ xs.length ∧ g = xs.length - k ∧ i = .int .i64 k ∧ Hid (∀ r, r < k → inB (xs.getD r 0) a b = true))
  case atStart => exact ⟨rfl, 0, Nat.zero_le _, rfl, rfl, fun r hr => by omega⟩
  case round =>
    obtain ⟨rfl, k, hk, rfl, rfl, HD⟩ := hrel
    by_cases hkn : k < xs.length
    · obtain ⟨p, o, rfl, hcell⟩ := unhide HC k hkn
      cases hin : inB (xs.getD k 0) a b with
      | true =>
        have HD' : Hid (∀ r, r < k + 1 → inB (xs.getD r 0) a b = true) := fun r hr => by
          by_cases e : r = k
          · subst e; exact hin
          · exact HD.out r (by omega)
        clear HD
        generalize xs.getD k 0 = x at *
        go_wp2_with (go_at_call 59; refine (l1In_any _ _ _ _).mono ?_; rintro e w' ⟨rfl, rfl⟩)
        go_roundg (xs.length - (k + 1))
        case measure => omega
        case rel => exact ⟨rfl, k + 1, by omega, rfl, by go_num, HD'⟩
      | false =>
        have HF : Hid ((xs.all fun x => inB x a b) = false) := all_false hkn (d := 0) hin
        clear HD
        generalize xs.getD k 0 = x at *
        go_wp2_with (go_at_call 59; refine (l1In_any _ _ _ _).mono ?_; rintro e w' ⟨rfl, rfl⟩)
        go_ret
        exact ⟨ret_bool (unhide HF).symm, rfl⟩
    · have HF : Hid ((xs.all fun x => inB x a b) = true) := all_true (d := 0) (fun r hr => HD.out r (by omega))
      clear HD
      go_wp2
      go_ret
      exact ⟨ret_bool (unhide HF).symm, rfl⟩

set_option maxHeartbeats 800000 in
theorem stripsOk_any (v v' : Value) (W B : List Int) (w : World) (h : IntsIn w v W) (h' : IntsIn w v' B) :
    Calls Try.prog 42 #[v, v'] w fun e w' => e = .returned (.bool (shOk W B)) ∧ w = w' := by
  obtain ⟨ao, cap, rfl, hl, hm, hc⟩ := h
  obtain ⟨ao', cap', rfl, hl', hm', hc'⟩ := h'
  unfold maxLen at hm hm'
  have HC := hide hc
  have HC' := hide hc'
  clear hc hc'
  by_cases hlen : W.length ≤ 40
  case neg =>
    have HF : Hid (shOk W B = false) := by show _ = _; simp [shOk, hlen]
    go_enter Try.func42, Try.ntmps42
    go_wp2
    go_ret
    exact ⟨ret_bool (unhide HF).symm, rfl⟩
  by_cases hsame : W.length = B.length
  case neg =>
    have HF : Hid (shOk W B = false) := by show _ = _; simp [shOk, hsame]
    have hne : ((W.length : Int) != (B.length : Int)) = true := by simp; omega
    go_enter Try.func42, Try.ntmps42
    go_wp2
    go_ret
    exact ⟨ret_bool (unhide HF).symm, rfl⟩
  have HS := hide hsame
  rw [← hsame] at hl' ⊢
  clear hsame
  go_enter Try.func42, Try.ntmps42
  go_wp2
  go_loopg [18] W.length (fun g i wr => w = wr ∧ ∃ k : Nat, k ≤ W.length ∧ g = W.length - k ∧ i = .int .i64 k ∧ Hid (∀ r, r < k → inB (W.getD r 0) 0 1000000 = true ∧ inB (B.getD r 0) 0 2000000 = true))
  case atStart => exact ⟨rfl, 0, Nat.zero_le _, rfl, rfl, fun r hr => by omega⟩
  case round =>
    obtain ⟨rfl, k, hk, rfl, rfl, HD⟩ := hrel
    by_cases hkn : k < W.length
    · obtain ⟨p, o, rfl, hcell⟩ := unhide HC k hkn
      obtain ⟨p', o', rfl, hcell'⟩ := unhide HC' k (by rw [← unhide HS]; exact hkn)
      cases hin : inB (W.getD k 0) 0 1000000 with
      | true =>
        cases hin' : inB (B.getD k 0) 0 2000000 with
        | true =>
          have HD' : Hid (∀ r, r < k + 1 → inB (W.getD r 0) 0 1000000 = true ∧ inB (B.getD r 0) 0 2000000 = true) := fun r hr => by
            by_cases e : r = k
            · subst e; exact ⟨hin, hin'⟩
            · exact HD.out r (by omega)
          clear HD
          generalize W.getD k 0 = x at *
          generalize B.getD k 0 = y at *
          go_wp2_with (go_at_call 43; refine (within_any _ _ _ _).mono ?_; rintro e w' ⟨rfl, rfl⟩)
          go_roundg (W.length - (k + 1))
          case measure => omega
          case rel => exact ⟨rfl, k + 1, by omega, rfl, by go_num, HD'⟩
        | false =>
          have HF : Hid (shOk W B = false) := by show _ = _; unfold shOk; rw [all_false (xs := B) (by rw [← unhide HS]; exact hkn) (d := 0) hin']; simp
          clear HD
          generalize W.getD k 0 = x at *
          generalize B.getD k 0 = y at *
          go_wp2_with (go_at_call 43; refine (within_any _ _ _ _).mono ?_; rintro e w' ⟨rfl, rfl⟩)
          go_ret
          exact ⟨ret_bool (unhide HF).symm, rfl⟩
      | false =>
        have HF : Hid (shOk W B = false) := by show _ = _; unfold shOk; rw [all_false (xs := W) hkn (d := 0) hin]; simp
        clear HD
        generalize W.getD k 0 = x at *
        generalize B.getD k 0 = y at *
        go_wp2_with (go_at_call 43; refine (within_any _ _ _ _).mono ?_; rintro e w' ⟨rfl, rfl⟩)
        go_ret
        exact ⟨ret_bool (unhide HF).symm, rfl⟩
    · have HF : Hid (shOk W B = true) := by
        show _ = _
        unfold shOk
        rw [all_true (xs := W) (d := 0) (fun r hr => (HD.out r (by omega)).1), all_true (xs := B) (d := 0) (fun r hr => (HD.out r (by have := unhide HS; omega)).2)]
        have := unhide HS
        simp
        omega
      clear HD
      go_wp2
      go_ret
      exact ⟨ret_bool (unhide HF).symm, rfl⟩

/-- The list begins with 0: one cell of the new list is filled. -/
theorem fillS_one (w : World) (f : Nat → Int) (n : Nat) (h0 : f 0 = 0) : FillS w (w.alloc (.cells (madeCells #[.int .i64 0] n) 3)) f n 1 :=
  ⟨(fillS_start w f n).below, (fillS_start w f n).row.congr (fun j _ => by
    by_cases h : j < 1
    · obtain rfl : j = 0 := by omega
      simp [h0]
    · simp [h])⟩

theorem FillS.cell {w wr : World} {f : Nat → Int} {n k j : Nat} (h : FillS w wr f n k) (hj : j < k) (hn : j < n) : wr.cell? ⟨w.heap.size, j, none⟩ = some (.int .i64 (f j)) := by
  have := h.row.cell hn
  rwa [if_pos hj] at this

theorem FillS.cell0 {w wr : World} {f : Nat → Int} {n k : Nat} (h : FillS w wr f n k) (hn : k < n) : wr.cell? ⟨w.heap.size, k, none⟩ = some (.int .i64 0) := by
  have := h.row.cell hn
  rwa [if_neg (by omega)] at this

set_option maxHeartbeats 1600000 in
theorem implShear2_any (v v' : Value) (W B : List Int) (w : World) (h : IntsIn w v W) (h' : IntsIn w v' B) :
    Calls Try.prog 16 #[v, v'] w fun e w' => ∃ ao n cap, e = .returned (.tuple #[.slice ao n cap, .bool (shOk W B)]) ∧ OwnSl w.heap.size w' (.slice ao n cap) (shear W B) ∧ Below w.heap.size w w' := by
  have HV := hide h
  have HV' := hide h'
  obtain ⟨ao, cap, rfl, hl, hm, hc⟩ := h
  obtain ⟨ao', cap', rfl, hl', hm', hc'⟩ := h'
  unfold maxLen at hm hm'
  have HC := hide hc
  have HC' := hide hc'
  clear hc hc'
  go_enter Try.func16, Try.ntmps16
  go_wp2_with fail
  refine (stripsOk_any _ _ W B _ (unhide HV) (unhide HV')).mono ?_
  rintro e w1 ⟨rfl, rfl⟩
  cases hok : shOk W B with
  | false =>
    have HF : Hid (shear W B = []) := by show _ = _; simp [shear, hok]
    have HK := hide hok
    clear hok
    go_wp2
    refine bodyPost_ret (v := .tuple #[.slice none 0 0, .bool false]) (by simp [results, Try.results16, go_sem]) rfl ⟨none, 0, 0, by rw [unhide HK], ?_, Below.refl _ _⟩
    rw [unhide HF]
    exact ⟨none, 0, rfl, Nat.le_refl _, Nat.zero_le _, fun h => absurd rfl h⟩
  | true =>
    have HF : Hid (shear W B = (List.range (W.length + 1)).map (shAt W B)) := by show _ = _; simp [shear, hok]
    have hR := shOk_r hok
    have HK := hide hok
    clear hok
    have hlen := hR.len
    have HR := hide hR
    clear hR
    obtain ⟨n, hn⟩ : ∃ n : Nat, n = W.length + 1 := ⟨_, rfl⟩
    rw [← hn] at HF
    have hmk := run_make_row' (P := Try.prog) 24 3 (.int .i64 0) 8 Try.underlying24 Try.info3 rfl .i64 .i64 n (by omega) (by omega)
    rw [show (n : Int) = (W.length : Int) + 1 by omega] at hmk
    have HN := hide hn
    clear hn
    go_wp2
    clear hmk
    go_loopg [18] W.length (fun g i wr => ∃ k : Nat, k ≤ W.length ∧ g = W.length - k ∧ i = .int .i64 k ∧ FillS w wr (shAt W B) n (k + 1))
    case atStart => exact ⟨0, Nat.zero_le _, rfl, rfl, fillS_one _ _ _ rfl⟩
    case round =>
      obtain ⟨k, hk, rfl, rfl, hF⟩ := hrel
      by_cases hkn : k < W.length
      · obtain ⟨p, o, rfl, hcell⟩ := unhide HC k hkn
        obtain ⟨p', o', rfl, hcell'⟩ := unhide HC' k (by rw [(unhide HR).same]; exact hkn)
        have g1 := (hF.below.cell (lt_of_cell hcell)).trans hcell
        have g2 := (hF.below.cell (lt_of_cell hcell')).trans hcell'
        have g3 := hF.cell (j := k) (by omega) (by have := unhide HN; omega)
        have g4 := hF.cell0 (by have := unhide HN; omega)
        have n1 : ¬ p = w.heap.size := by have : p < w.heap.size := lt_of_cell hcell; omega
        have n2 : ¬ p' = w.heap.size := by have : p' < w.heap.size := lt_of_cell hcell'; omega
        have n3 : ¬ w.heap.size = p := fun e => n1 e.symm
        have n4 : ¬ w.heap.size = p' := fun e => n2 e.symm
        have g5 := hF.row.frozen (k + 1)
        have bs := shAt_bd (unhide HR) (show k ≤ W.length by omega)
        have bw := (unhide HR).w k hkn
        have bb := (unhide HR).b k hkn
        have bl : (k : Int) < B.length := by rw [(unhide HR).same]; omega
        have bk : (k : Int) < n := by have := unhide HN; omega
        have bk1 : (k : Int) + 1 < n := by have := unhide HN; omega
        have n5 : ∀ u, (wr.setCell ⟨w.heap.size, k + 1, none⟩ u).cell? ⟨w.heap.size, k, none⟩ = some (.int .i64 (shAt W B k)) := fun u => (World.cell?_setCell_other _ _ _ _ (by simp)).trans g3
        have n6 : (0 : Int) ≤ (k : Int) + 1 := by omega
        have bk2 : IntKind.i64.wrap ((k : Int) + 1) = (k : Int) + 1 := by rw [IntKind.wrap_i64]; omega
        have HS := hide (fillS_step hF (Below.refl _ wr).drew)
        have ES := hide (shAt_succ W B k)
        clear hcell hcell' hF
        generalize shAt W B (k + 1) = t at *
        generalize shAt W B k = s at *
        generalize W.getD k 0 = x at *
        generalize B.getD k 0 = y at *
        have et : t = s + 2 * x - y := by have := unhide ES; omega
        clear ES
        subst et
        obtain ⟨bs1, bs2⟩ := bs
        obtain ⟨bw1, bw2⟩ := bw
        obtain ⟨bb1, bb2⟩ := bb
        go_wp2
        go_region_held3 (fun w' => w'.cell? ⟨p, o + k, none⟩ = some (.int .i64 x) ∧ w'.cell? ⟨p', o' + k, none⟩ = some (.int .i64 y) ∧ w'.cell? ⟨w.heap.size, k, none⟩ = some (.int .i64 s)) (go_keep) (fail)
        go_wp2
        go_roundg (W.length - (k + 1))
        case measure => omega
        case rel => exact ⟨k + 1, by omega, rfl, by go_num, unhide HS⟩
      · have hkk : k = W.length := by omega
        subst hkk
        go_wp2
        have hn := unhide HN
        rw [← hn] at hF
        refine bodyPost_ret (v := .tuple #[.slice (some ⟨w.heap.size, 0, none⟩) n n, .bool true]) (by simp [results, Try.results16, go_sem]) rfl ⟨_, _, _, by rw [unhide HK], ?_, hF.below⟩
        rw [unhide HF]
        exact fillS_done hF (by unfold maxLen; omega)

end Go.Proofs.Ytliodmahbdmcbaa
