/- Where a box is: both FindBox. Written by wip/mkyd.py. -/
import Derived.Test.YtjllilmiloippaaYaD
import Derived.OwnWalk
namespace Go.Proofs.Ytjllilmiloippaa
open Go.RowKit

noncomputable def fndA (H : Int) (R : List (List Int)) (x : Int) : Value := .tuple #[.int .i64 (findV H R x).1, .int .i64 (findV H R x).2.1, .bool (findV H R x).2.2]

theorem fndA_bad {H : Int} {R : List (List Int)} (x : Int) (h : yardB H R = false) : fndA H R x = .tuple #[.int .i64 (-1), .int .i64 (-1), .bool false] := by
  have : ¬ YOk H R := of_decide_eq_false h
  simp [fndA, findV, this]
theorem fndA_none {H : Int} {R : List (List Int)} {x : Int} (h : yardB H R = true) (hx : ∀ s, s < R.length → x ∉ R.getD s []) : fndA H R x = .tuple #[.int .i64 (-1), .int .i64 (-1), .bool false] := by
  have : YOk H R := of_decide_eq_true h
  simp [fndA, findV, this, findB_none hx]
theorem fndA_some {H : Int} {R : List (List Int)} {x : Int} {s t : Nat} (h : yardB H R = true) (hs : s < R.length) (hj : ∀ j, j < s → x ∉ R.getD j []) (ht : t < (R.getD s []).length) (hx : (R.getD s []).getD t 0 = x) (hu : ∀ u, u < t → (R.getD s []).getD u 0 ≠ x) : fndA H R x = .tuple #[.int .i64 s, .int .i64 t, .bool true] := by
  have : YOk H R := of_decide_eq_true h
  simp [fndA, findV, this, findB_some hs hj ht hx hu]

theorem idx_first : ∀ (L : List Int) (x : Int) (u : Nat), u < L.idxOf x → L.getD u 0 ≠ x
  | [], _, _, h => by simp at h
  | y :: L, x, 0, h => by
    intro e
    rw [List.getD_cons_zero] at e
    subst e
    simp at h
  | y :: L, x, u + 1, h => by
    rw [List.getD_cons_succ]
    by_cases e : y = x
    · subst e; simp at h
    · have hb : (y == x) = false := by simpa using e
      rw [List.idxOf_cons, hb] at h
      exact idx_first L x u (by simpa using h)

set_option maxRecDepth 10000 in
set_option maxHeartbeats 4000000 in
theorem specFindBox_a (H x : Int) (v : Value) (R : List (List Int)) (w : World) (h : RowsIn w v R) :
    Calls Try.prog 26 #[yardV H v, .int .i64 x] w fun e w' => e = .returned (fndA H R x) ∧ Below w.heap.size w w' := by
  obtain ⟨A, eA⟩ : ∃ A, A = fndA H R x := ⟨_, rfl⟩
  rw [← eA]
  have EA := hide eA
  clear eA
  have HV := hide h
  obtain ⟨ao, cap, rfl, hc1, hc2⟩ := rows_cap h
  clear h
  have HB := hide (ownV_alloc w #[.int .i64 H, .slice ao R.length cap] 26)
  have HW := hide (Below.alloc1 w (.cells #[.int .i64 H, .slice ao R.length cap] 26))
  obtain ⟨g, eg⟩ : ∃ g, g = w.heap.size := ⟨_, rfl⟩
  have HYK := hide fun W (hb : Below w.heap.size w W) => specYardOk_any H (.slice ao R.length cap) R W ((unhide HV).below hb)
  have HSM := hide fun s t => fndA_some (H := H) (R := R) (x := x) (s := s) (t := t)
  have HNN := hide (fndA_none (H := H) (R := R) (x := x))
  have HBD := hide (fndA_bad (H := H) (R := R) x)
  have HNY : Hid (R.length = 0 → yardB H R = false) := fun h0 => decide_eq_false fun h => by have := h.n1; omega
  generalize yardB H R = r at HYK HSM HNN HBD HNY
  unfold yardV at HYK ⊢
  go_enter Try.func26, Try.ntmps26
  go_upto_region 1 with (fail)
  obtain ⟨W0, eW⟩ : ∃ z, z = w.alloc (.cells #[.int .i64 H, .slice ao R.length cap] 26) := ⟨_, rfl⟩
  rw [← eW] at HB HW ⊢
  rw [← eg] at HB ⊢
  clear eW eg
  have b0 := (unhide HB).cell (i := 0) rfl
  have b1 := (unhide HB).cell (i := 1) rfl
  go_wp2
  clear b0 b1
  go_loopg [7] R.length (fun gh iv wr => ∃ k : Nat, k ≤ R.length ∧ gh = R.length - k ∧ iv = .int .i64 k ∧ Hid (Below w.heap.size w wr) ∧ Hid (OwnV wr g [.int .i64 H, .slice ao R.length cap]) ∧ Hid (∀ s, s < k → x ∉ R.getD s []) ∧ Hid (0 < k → r = true))
  case atStart => exact ⟨0, Nat.zero_le _, rfl, rfl, HW, HB, fun s hs => by omega, fun h => by omega⟩
  case round =>
    clear HW HB
    obtain ⟨k, hk, rfl, rfl, HW, HB, HX, HRk⟩ := hrel
    have b0 := (unhide HB).cell (i := 0) rfl
    have b1 := (unhide HB).cell (i := 1) rfl
    by_cases hkn : k < R.length
    · have dk : decide ((k : Int) < (R.length : Int)) = true := by rw [decide_eq_true_eq]; omega
      cases r with
      | false =>
        have HEV := hide ((unhide EA).trans (unhide HBD (by first | rfl | trivial)))
        go_wp2_with fail
        refine (unhide HYK _ (unhide HW)).mono ?_
        rintro e w9 ⟨rfl, hb⟩
        replace HW := hide (Below.step (unhide HW) hb)
        clear hb
        go_wp2
        go_ret3
        exact ⟨by rw [unhide HEV]; rfl, unhide HW⟩
      | true =>
        go_wp2_with fail
        refine (unhide HYK _ (unhide HW)).mono ?_
        rintro e w9 ⟨rfl, hb⟩
        replace HW := hide (Below.step (unhide HW) hb)
        replace HB := hide ((unhide HB).step hb)
        clear hb b0 b1 dk
        have b1 := (unhide HB).cell (i := 1) rfl
        obtain ⟨bb, oo, eao, hcl⟩ := rows_at (unhide HV) (by omega)
        subst eao
        obtain ⟨ar, m, cr, hcell, hrow, EM, hm1, hm2⟩ := hcl w9 (unhide HW) k hkn
        clear hcl
        unfold maxLen at hm2
        have HR := hide hrow
        clear hrow
        go_wp2
        go_loopg [8] m (fun gh iv wr => w9 = wr ∧ ∃ j : Nat, j ≤ m ∧ gh = m - j ∧ iv = .int .i64 j ∧ Hid (∀ t, t < j → (R.getD k []).getD t 0 ≠ x))
        case atStart => exact ⟨rfl, 0, Nat.zero_le _, rfl, rfl, fun s hs => by omega⟩
        case round =>
          obtain ⟨rfl, j, hj, rfl, rfl, HE⟩ := hrel
          by_cases hjm : j < m
          · obtain ⟨rb, ro, er, hx⟩ := intAt (unhide HR) hjm
            subst er
            obtain ⟨y, ey⟩ : ∃ y, (R.getD k []).getD j 0 = y := ⟨_, rfl⟩
            rw [ey] at hx
            have EY := hide ey
            clear ey
            by_cases hyx : y = x
            · have HEV := hide ((unhide EA).trans (unhide HSM k j (by first | rfl | trivial) hkn (unhide HX) (by rw [unhide EM]; exact hjm) ((unhide EY).trans hyx) HE.out))
              subst hyx
              go_wp2
              go_ret3
              exact ⟨by rw [unhide HEV]; rfl, unhide HW⟩
            · have hd : (y == x) = false := by simpa using hyx
              go_wp2
              go_roundg (m - (j + 1))
              case measure => omega
              case rel => exact ⟨rfl, j + 1, by omega, rfl, by go_num, fun t ht => by
                by_cases e : t = j
                · subst e; rw [unhide EY]; exact hyx
                · exact HE.out t (by omega)⟩
          · have hjj : j = m := by omega
            subst hjj
            go_wp2
            go_roundg (R.length - (k + 1))
            case measure => omega
            case rel => exact ⟨k + 1, by omega, rfl, by go_num, HW, HB, fun s hs => by
              by_cases e : s = k
              · subst e
                intro hm
                obtain ⟨t, ht, e⟩ := mem_at.1 hm
                exact HE.out t (by rw [← unhide EM]; exact ht) e
              · exact HX.out s (by omega), fun _ => by first | rfl | trivial⟩
    · have dk : decide ((k : Int) < (R.length : Int)) = false := by rw [decide_eq_false_iff_not]; omega
      have hkk : k = R.length := by omega
      have HEV : Hid (A = .tuple #[.int .i64 (-1), .int .i64 (-1), .bool false]) := by
        show _ = _
        rw [unhide EA]
        by_cases h0 : R.length = 0
        · exact unhide HBD (unhide HNY h0)
        · exact unhide HNN (HRk.out (by omega)) (by rw [← hkk]; exact unhide HX)
      clear hkk
      go_wp2
      go_ret3
      exact ⟨by rw [unhide HEV]; rfl, unhide HW⟩

set_option maxRecDepth 10000 in
set_option maxHeartbeats 4000000 in
theorem implFindBox_a (H x : Int) (v : Value) (R : List (List Int)) (w : World) (h : RowsIn w v R) :
    Calls Try.prog 13 #[yardV H v, .int .i64 x] w fun e w' => e = .returned (fndA H R x) ∧ Below w.heap.size w w' := by
  obtain ⟨A, eA⟩ : ∃ A, A = fndA H R x := ⟨_, rfl⟩
  rw [← eA]
  have EA := hide eA
  clear eA
  have HV := hide h
  obtain ⟨ao, cap, rfl, hc1, hc2⟩ := rows_cap h
  clear h
  have HB := hide (ownV_alloc w #[.int .i64 H, .slice ao R.length cap] 26)
  have HW := hide (Below.alloc1 w (.cells #[.int .i64 H, .slice ao R.length cap] 26))
  obtain ⟨g, eg⟩ : ∃ g, g = w.heap.size := ⟨_, rfl⟩
  have HYK := hide fun W (hb : Below w.heap.size w W) => implYardOk_any H (.slice ao R.length cap) R W ((unhide HV).below hb)
  have HSM := hide fun s t => fndA_some (H := H) (R := R) (x := x) (s := s) (t := t)
  have HNN := hide (fndA_none (H := H) (R := R) (x := x))
  have HBD := hide (fndA_bad (H := H) (R := R) x)
  generalize yardB H R = r at HYK HSM HNN HBD
  unfold yardV at HYK ⊢
  go_enter Try.func13, Try.ntmps13
  go_upto_region 1 with (fail)
  obtain ⟨W0, eW⟩ : ∃ z, z = w.alloc (.cells #[.int .i64 H, .slice ao R.length cap] 26) := ⟨_, rfl⟩
  rw [← eW] at HB HW ⊢
  rw [← eg] at HB ⊢
  clear eW eg
  have b0 := (unhide HB).cell (i := 0) rfl
  have b1 := (unhide HB).cell (i := 1) rfl
  go_wp2_with fail
  refine (unhide HYK _ (unhide HW)).mono ?_
  rintro e w9 ⟨rfl, hb⟩
  replace HW := hide (Below.step (unhide HW) hb)
  replace HB := hide ((unhide HB).step hb)
  clear hb b0 b1 HYK
  have b1 := (unhide HB).cell (i := 1) rfl
  cases r with
  | false =>
    have HEV := hide ((unhide EA).trans (unhide HBD (by first | rfl | trivial)))
    go_wp2
    go_ret3
    exact ⟨by rw [unhide HEV]; rfl, unhide HW⟩
  | true =>
  go_wp2
  go_loopg [16] R.length (fun gh iv wr => w9 = wr ∧ ∃ k : Nat, k ≤ R.length ∧ gh = R.length - k ∧ iv = .int .i64 k ∧ Hid (∀ s, s < k → x ∉ R.getD s []))
  case atStart => exact ⟨rfl, 0, Nat.zero_le _, rfl, rfl, fun s hs => by omega⟩
  case round =>
    obtain ⟨rfl, k, hk, rfl, rfl, HX⟩ := hrel
    by_cases hkn : k < R.length
    · obtain ⟨bb, oo, eao, hcl⟩ := rows_at (unhide HV) (by omega)
      subst eao
      obtain ⟨ar, m, cr, hcell, hrow, EM, hm1, hm2⟩ := hcl w9 (unhide HW) k hkn
      clear hcl
      unfold maxLen at hm2
      have HI := hide (slIndex_any _ _ x w9 hrow)
      clear hrow
      obtain ⟨z, ez⟩ : ∃ z, z = idxV (R.getD k []) x := ⟨_, rfl⟩
      rw [← ez] at HI
      by_cases hm : x ∈ R.getD k []
      · have hlt : (R.getD k []).idxOf x < (R.getD k []).length := List.idxOf_lt_length_iff.2 hm
        have ez2 : z = (((R.getD k []).idxOf x : Nat) : Int) := by rw [ez, idxV, if_pos hm]
        have HEV := hide ((unhide EA).trans (unhide HSM k _ (by first | rfl | trivial) hkn (unhide HX) hlt (by rw [getD_lt hlt]; exact List.getElem_idxOf hlt) (idx_first _ _)))
        generalize (R.getD k []).idxOf x = q at *
        subst ez2
        clear ez
        go_wp2_with fail
        refine (unhide HI).mono ?_
        rintro e w10 ⟨rfl, rfl⟩
        go_wp2
        go_ret3
        exact ⟨by rw [unhide HEV]; rfl, unhide HW⟩
      · have ez2 : z = -1 := by rw [ez, idxV, if_neg hm]
        subst ez2
        clear ez
        go_wp2_with fail
        refine (unhide HI).mono ?_
        rintro e w10 ⟨rfl, rfl⟩
        go_wp2
        go_roundg (R.length - (k + 1))
        case measure => omega
        case rel => exact ⟨rfl, k + 1, by omega, rfl, by go_num, fun s hs => by
          by_cases e : s = k
          · subst e; exact hm
          · exact HX.out s (by omega)⟩
    · have hkk : k = R.length := by omega
      subst hkk
      have HEV := hide ((unhide EA).trans (unhide HNN (by first | rfl | trivial) (unhide HX)))
      go_wp2
      go_ret3
      exact ⟨by rw [unhide HEV]; rfl, unhide HW⟩

end Go.Proofs.Ytjllilmiloippaa
