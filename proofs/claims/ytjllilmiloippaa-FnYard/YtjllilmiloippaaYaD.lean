/- The program's boxesIn and YardOk. Written by wip/mkyd.py. -/
import Derived.Test.YtjllilmiloippaaYaW
namespace Go.Proofs.Ytjllilmiloippaa
open Go.RowKit

theorem flat_succ {R : List (List Int)} {k : Nat} (h : k < R.length) : (R.take (k + 1)).flatten = (R.take k).flatten ++ R.getD k [] := by
  rw [List.take_add_one, List.flatten_append, getD_lt h, List.getElem?_eq_getElem h]
  simp
theorem flat_bd {R : List (List Int)} (hl : ∀ s, s < R.length → (R.getD s []).length ≤ 6) : ∀ k, k ≤ R.length → (R.take k).flatten.length ≤ 6 * k
  | 0, _ => by simp
  | q + 1, h => by
    have h1 := flat_succ (show q < R.length by omega)
    have h2 := flat_bd hl q (by omega)
    have h3 := hl q (by omega)
    rw [h1, List.length_append]
    omega

set_option maxRecDepth 10000 in
set_option maxHeartbeats 1600000 in
theorem boxesIn_any (H : Int) (v : Value) (R : List (List Int)) (w : World) (h : RowsIn w v R) (hn : R.length ≤ 12) (hl : ∀ s, s < R.length → (R.getD s []).length ≤ 6) :
    Calls Try.prog 51 #[yardV H v] w fun e w' => ∃ ao m cap, e = .returned (.slice ao m cap) ∧ IntsIn w' (.slice ao m cap) R.flatten ∧ m ≤ 72 ∧ Below w.heap.size w w' := by
  have HV := hide h
  obtain ⟨ao, cap, rfl, hc1, hc2⟩ := rows_cap h
  clear h
  have HB := hide (ownV_alloc w #[.int .i64 H, .slice ao R.length cap] 26)
  have HW := hide (Below.alloc1 w (.cells #[.int .i64 H, .slice ao R.length cap] 26))
  obtain ⟨g, eg⟩ : ∃ g, g = w.heap.size := ⟨_, rfl⟩
  have HL := hide hl
  clear hl
  unfold yardV
  go_enter Try.func51, Try.ntmps51
  go_upto_region 1 with (fail)
  obtain ⟨W0, eW⟩ : ∃ z, z = w.alloc (.cells #[.int .i64 H, .slice ao R.length cap] 26) := ⟨_, rfl⟩
  rw [← eW] at HB HW ⊢
  rw [← eg] at HB ⊢
  clear eW eg
  have b1 := (unhide HB).cell (i := 1) rfl
  have HN0 := hide (rowB_nil 3 1 eI W0.heap.size W0)
  have HWW := hide (Below.refl W0.heap.size W0)
  go_wp2
  clear b1
  go_loopg [3, 9] R.length (fun gh av iv wr => ∃ k : Nat, k ≤ R.length ∧ gh = R.length - k ∧ iv = .int .i64 k ∧ ∃ sa m sc, av = .slice sa m sc ∧ Hid (Below W0.heap.size W0 wr) ∧ Hid (RowB 3 1 eI W0.heap.size wr sa m sc (R.take k).flatten))
  case atStart => exact ⟨0, Nat.zero_le _, rfl, rfl, none, 0, 0, rfl, HWW, by show RowB _ _ _ _ _ _ _ _ _; simpa using unhide HN0⟩
  case round =>
    clear HWW HN0
    obtain ⟨k, hk, rfl, rfl, sa, m, sc, rfl, HWW, HN⟩ := hrel
    have hmk : m ≤ 72 := by
      have h1 := flat_bd (unhide HL) k hk
      have h2 := (unhide HN).len (by omega)
      omega
    have hsz := (unhide HWW).size
    by_cases hkn : k < R.length
    · obtain ⟨b, o, eao, hcl⟩ := rows_at (unhide HV) (by omega)
      subst eao
      obtain ⟨ar, m1, cr, hcell, hrow, EM, hm1, hm2⟩ := hcl wr (Below.step (unhide HW) (unhide HWW)) k hkn
      clear hcl
      have hm6 := unhide HL k hkn
      rw [unhide EM] at hm6
      unfold maxLen at hm2
      have HR := hide (ints_recs hrow)
      have HFS := hide (flat_succ hkn)
      clear hrow
      go_upto_region 6 with (at_builtin; go_must (refine wpList_appAll tyI _ rfl _ _ rfl W0.heap.size sa m sc _ rfl (unhide HN) hsz (by omega) ar m1 cr _ rfl (unhide HR) (by omega) ?_); intro sa2 sc2 w2 hL hK; have HN2 := hide hL; have HW2 : Hid (Below W0.heap.size W0 w2) := (unhide HWW).trans (hK.below (B := W0.heap.size) hsz (fun q e => by
        rcases (unhide HN).parts (by omega) with ⟨e0, _⟩ | ⟨g1, e0, hg1, _⟩
        · rw [e0] at e; cases e
        · rw [e0] at e; simp only [Option.some.injEq, Addr.mk.injEq, and_true] at e; omega)); clear hL hK)
      go_wp2
      go_roundg (R.length - (k + 1))
      case measure => omega
      case rel => exact ⟨k + 1, by omega, rfl, by go_num, sa2, m + m1, sc2, rfl, HW2, by show RowB _ _ _ _ _ _ _ _ _; rw [unhide HFS]; exact unhide HN2⟩
    · have hkk : k = R.length := by omega
      subst hkk
      go_wp2
      go_ret
      refine ⟨_, _, _, rfl, ?_, hmk, Below.step (unhide HW) (unhide HWW)⟩
      have := recs_ints ((unhide HN).recs (by omega))
      rwa [List.take_length] at this

theorem within_b (x a b : Int) (w : World) : Calls Try.prog 50 #[.int .i64 x, .int .i64 a, .int .i64 b] w fun e w' => e = .returned (.bool (inB x a b)) ∧ Below w.heap.size w w' := (within_any x a b w).mono fun _ _ ⟨h1, h2⟩ => ⟨h1, by rw [h2]; exact Below.refl _ _⟩

theorem isYardBox_any (x : Int) (w : World) : Calls Try.prog 52 #[.int .i64 x] w fun e w' => e = .returned (.bool (inB x 1 1000000)) ∧ Below w.heap.size w w' := by
  go_enter Try.func52, Try.ntmps52
  go_wp2_with fail
  refine (within_any x 1 1000000 _).mono ?_
  rintro e w' ⟨rfl, rfl⟩
  go_wp2
  go_ret
  exact ⟨rfl, Below.refl _ _⟩

set_option maxRecDepth 10000 in
set_option maxHeartbeats 4000000 in
theorem implYardOk_any (H : Int) (v : Value) (R : List (List Int)) (w : World) (h : RowsIn w v R) :
    Calls Try.prog 15 #[yardV H v] w fun e w' => e = .returned (.bool (yardB H R)) ∧ Below w.heap.size w w' := by
  have HV := hide h
  obtain ⟨ao, cap, rfl, hc1, hc2⟩ := rows_cap h
  clear h
  have HB := hide (ownV_alloc w #[.int .i64 H, .slice ao R.length cap] 26)
  have HW := hide (Below.alloc1 w (.cells #[.int .i64 H, .slice ao R.length cap] 26))
  obtain ⟨g, eg⟩ : ∃ g, g = w.heap.size := ⟨_, rfl⟩
  have HRT : Hid (YOk H R → yardB H R = true) := fun h => decide_eq_true h
  have HRF : Hid (¬ YOk H R → yardB H R = false) := fun h => decide_eq_false h
  generalize yardB H R = r at HRT HRF ⊢
  have HBI := hide fun W (hb : Below w.heap.size w W) h1 h2 => boxesIn_any H (.slice ao R.length cap) R W ((unhide HV).below hb) h1 h2
  unfold yardV at HBI ⊢
  go_enter Try.func15, Try.ntmps15
  go_upto_region 1 with (fail)
  obtain ⟨W0, eW⟩ : ∃ z, z = w.alloc (.cells #[.int .i64 H, .slice ao R.length cap] 26) := ⟨_, rfl⟩
  rw [← eW] at HB HW ⊢
  rw [← eg] at HB ⊢
  clear eW eg
  have b0 := (unhide HB).cell (i := 0) rfl
  have b1 := (unhide HB).cell (i := 1) rfl
  have Q1 := hide fun V => within_b H 1 6 V
  have Q2 := hide fun V => within_b (R.length : Int) 1 12 V
  cases h1 : inB H 1 6 with
  | false =>
    have e1 : r = false := unhide HRF (fun h => by have := inB_mk h.h1 h.h2; rw [h1] at this; cases this)
    subst e1
    rw [h1] at Q1
    go_wp2_with fail
    refine (unhide Q1 _).mono ?_
    rintro e w9 ⟨rfl, hb⟩
    have HW9 := hide (Below.step (unhide HW) hb)
    clear hb
    go_wp2
    go_ret
    exact ⟨rfl, unhide HW9⟩
  | true =>
  obtain ⟨hh1, hh2⟩ := inB_true h1
  rw [h1] at Q1
  go_wp2_with fail
  refine (unhide Q1 _).mono ?_
  rintro e w9 ⟨rfl, hb⟩
  replace HW := hide (Below.step (unhide HW) hb)
  replace HB := hide ((unhide HB).step hb)
  clear hb b0 b1 h1 Q1
  have b0 := (unhide HB).cell (i := 0) rfl
  have b1 := (unhide HB).cell (i := 1) rfl
  cases h2 : inB (R.length : Int) 1 12 with
  | false =>
    have e1 : r = false := unhide HRF (fun h => by have := inB_mk (show (1 : Int) ≤ (R.length : Int) from by have := h.n1; omega) (show (R.length : Int) ≤ 12 from by have := h.n2; omega); rw [h2] at this; cases this)
    subst e1
    rw [h2] at Q2
    go_wp2_with fail
    refine (unhide Q2 _).mono ?_
    rintro e w10 ⟨rfl, hb⟩
    have HW9 := hide (Below.step (unhide HW) hb)
    clear hb
    go_wp2
    go_ret
    exact ⟨rfl, unhide HW9⟩
  | true =>
  obtain ⟨hn1, hn2⟩ := inB_true h2
  rw [h2] at Q2
  go_wp2_with fail
  refine (unhide Q2 _).mono ?_
  rintro e w10 ⟨rfl, hb⟩
  replace HW := hide (Below.step (unhide HW) hb)
  replace HB := hide ((unhide HB).step hb)
  clear hb b0 b1 h2 Q2
  have b0 := (unhide HB).cell (i := 0) rfl
  have b1 := (unhide HB).cell (i := 1) rfl
  obtain ⟨bb, oo, eao, hcl⟩ := rows_at (unhide HV) (by omega)
  subst eao
  have HCL := hide hcl
  clear hcl HV
  go_wp2
  go_loopg [22] R.length (fun gh iv wr => w10 = wr ∧ ∃ k : Nat, k ≤ R.length ∧ gh = R.length - k ∧ iv = .int .i64 k ∧ Hid (∀ s, s < k → ((R.getD s []).length : Int) ≤ H))
  case atStart => exact ⟨rfl, 0, Nat.zero_le _, rfl, rfl, fun s hs => by omega⟩
  case round =>
    obtain ⟨rfl, k, hk, rfl, rfl, HS⟩ := hrel
    by_cases hkn : k < R.length
    · obtain ⟨ar, m, cr, hcell, -, EM, hm1, hm2⟩ := unhide HCL w10 (unhide HW) k hkn
      unfold maxLen at hm2
      by_cases hlow : H < (m : Int)
      · have e1 : r = false := unhide HRF (fun h => by have := h.low k hkn; rw [unhide EM] at this; omega)
        subst e1
        go_wp2
        go_ret
        exact ⟨rfl, unhide HW⟩
      · go_wp2
        go_roundg (R.length - (k + 1))
        case measure => omega
        case rel => exact ⟨rfl, k + 1, by omega, rfl, by go_num, fun s hs => by
          by_cases e : s = k
          · subst e; rw [unhide EM]; omega
          · exact HS.out s (by omega)⟩
    · have hkk : k = R.length := by omega
      subst hkk
      have HL6 : Hid (∀ s, s < R.length → (R.getD s []).length ≤ 6) := fun s hs => by have := HS.out s hs; omega
      go_wp2_with fail
      refine (unhide HBI _ (unhide HW) (by omega) (unhide HL6)).mono ?_
      rintro e w11 ⟨xa, xm, xc, rfl, hI, hxm, hb⟩
      replace HW := hide (Below.step (unhide HW) hb)
      have hlen := hI.len
      obtain ⟨hl1, hl2, hl3⟩ := hlen
      unfold maxLen at hl3
      have HI := hide hI
      have ELN := hide hl1
      clear hb b0 b1 hI hl1 HB HBI
      have HMB : Hid (∀ t, t < R.flatten.length → (1 ≤ R.flatten.getD t 0 ∧ R.flatten.getD t 0 ≤ 1000000) ∨ ¬ YOk H R) := fun t ht => by
        by_cases hy : YOk H R
        · left
          obtain ⟨s, hs, hx⟩ := mem_flat.1 (mem_at.2 ⟨t, ht, rfl⟩)
          obtain ⟨q, hq, e⟩ := mem_at.1 hx
          rw [← e]
          exact hy.box s hs q hq
        · exact Or.inr hy
      go_wp2
      go_loopg [36] xm (fun gh iv wr => ∃ j : Nat, j ≤ xm ∧ gh = xm - j ∧ iv = .int .i64 j ∧ Hid (Below w.heap.size w wr) ∧ Hid (IntsIn wr (.slice xa xm xc) R.flatten) ∧ Hid (∀ t, t < j → 1 ≤ R.flatten.getD t 0 ∧ R.flatten.getD t 0 ≤ 1000000))
      case atStart => exact ⟨0, Nat.zero_le _, rfl, rfl, HW, HI, fun s hs => by omega⟩
      case round =>
        clear HW HI
        obtain ⟨j, hj, rfl, rfl, HW, HI, HE⟩ := hrel
        by_cases hjm : j < xm
        · obtain ⟨rb, ro, er, hx⟩ := intAt (unhide HI) hjm
          subst er
          obtain ⟨y, ey⟩ : ∃ y, R.flatten.getD j 0 = y := ⟨_, rfl⟩
          rw [ey] at hx
          have EY := hide ey
          clear ey
          have Q1 := hide fun V => isYardBox_any y V
          cases h1 : inB y 1 1000000 with
          | false =>
            have e1 : r = false := unhide HRF (fun h => by
              rcases unhide HMB j (by rw [unhide ELN]; exact hjm) with h9 | h9
              · rw [unhide EY] at h9
                have := inB_mk h9.1 h9.2
                rw [h1] at this; cases this
              · exact h9 h)
            subst e1
            rw [h1] at Q1
            go_wp2_with fail
            refine (unhide Q1 _).mono ?_
            rintro e w12 ⟨rfl, hb⟩
            replace HW := hide (Below.step (unhide HW) hb)
            clear hb
            go_wp2
            go_ret
            exact ⟨rfl, unhide HW⟩
          | true =>
            have hy := inB_true h1
            have HY := hide hy
            clear hy
            rw [h1] at Q1
            go_wp2_with fail
            refine (unhide Q1 _).mono ?_
            rintro e w12 ⟨rfl, hb⟩
            replace HW := hide (Below.step (unhide HW) hb)
            replace HI := hide ((unhide HI).below hb)
            clear hb
            go_wp2
            go_roundg (xm - (j + 1))
            case measure => omega
            case rel => exact ⟨j + 1, by omega, rfl, by go_num, HW, HI, fun t ht => by
              by_cases e : t = j
              · subst e; rw [unhide EY]; exact unhide HY
              · exact HE.out t (by omega)⟩
        · have hjj : j = xm := by omega
          subst hjj
          have Q := hide (hasTwice_any xa j xc R.flatten wr (unhide HI) (by omega))
          obtain ⟨z, ez⟩ : ∃ z, z = (!decide R.flatten.Nodup) := ⟨_, rfl⟩
          rw [← ez] at Q
          have HE1 : Hid (r = !z) := by
            show _ = _
            by_cases hnd : R.flatten.Nodup
            · rw [ez, unhide HRT ⟨hh1, hh2, by omega, by omega, HS.out, fun s hs t ht => by
                obtain ⟨q, hq, e⟩ := mem_at.1 (mem_flat.2 ⟨s, hs, mem_at.2 ⟨t, ht, rfl⟩⟩)
                have := HE.out q (by rw [← unhide ELN]; exact hq)
                rwa [e] at this, hnd⟩]
              simp [hnd]
            · rw [ez, unhide HRF (fun h => hnd h.one)]
              simp [hnd]
          clear ez
          go_wp2_with fail
          refine (unhide Q).mono ?_
          rintro e w12 ⟨rfl, hb⟩
          replace HW := hide (Below.step (unhide HW) hb)
          clear hb Q
          go_wp2
          go_ret
          exact ⟨by rw [unhide HE1]; rfl, unhide HW⟩

end Go.Proofs.Ytjllilmiloippaa
