/- Both sides' Balanced. -/
import Derived.Test.YtliodmahbdmcbaaSgCs
namespace Go.Proofs.Ytliodmahbdmcbaa
open Go.RowKit

theorem bend_cells {B0 : Nat} {w : World} {ao : Option Addr} {n cap : Nat} {W B : List Int} {st : Int} (h : OwnSl B0 w (.slice ao n cap) (bend W B st)) (hok : beOk W B st = true) :
    n = W.length + 1 ∧ ∃ g, ao = some ⟨g, 0, none⟩ ∧ g < w.heap.size ∧ ∀ k, k < n → w.cell? ⟨g, k, none⟩ = some (.int .i64 (beAt W B st k)) := by
  have e : bend W B st = (List.range (W.length + 1)).map (beAt W B st) := by simp [bend, hok]
  rw [e] at h
  obtain ⟨ao', cap', hv, h1, h2, h3⟩ := h
  simp only [Value.slice.injEq] at hv
  obtain ⟨rfl, hn, rfl⟩ := hv
  rw [range_len] at hn
  obtain ⟨g, rfl, _, ho⟩ := h3 (by simp [List.range_succ])
  refine ⟨hn, g, rfl, ho.lt, fun k hk => ?_⟩
  have := ho.cell (ints_get ((List.range (W.length + 1)).map (beAt W B st)) (i := k) (by rw [range_len]; omega))
  rw [this]
  congr 2
  simp [List.getD, show k < W.length + 1 by omega]

set_option maxHeartbeats 1000000 in
theorem implBalanced_any (v v' : Value) (W B : List Int) (st : Int) (w : World) (h : IntsIn w v W) (h' : IntsIn w v' B) :
    Calls Try.prog 15 #[v, v', .int .i64 st] w fun e w' => e = .returned (.bool (balanced W B st)) ∧ Below w.heap.size w w' := by
  have HV := hide h
  have HV' := hide h'
  obtain ⟨ao, cap, rfl, hl, hm, hc⟩ := h
  obtain ⟨ao', cap', rfl, hl', hm', hc'⟩ := h'
  unfold maxLen at hm hm'
  clear hc hc'
  go_enter Try.func15, Try.ntmps15
  go_wp2_with fail
  refine (implBending4_any _ _ W B st _ (unhide HV) (unhide HV')).mono ?_
  rintro e w1 ⟨a1, n1, c1, rfl, ho, hb⟩
  have HO := hide ho
  have HW := hide hb
  clear ho hb
  cases hok : beOk W B st with
  | false =>
    have HF : Hid (balanced W B st = false) := by show _ = _; simp [balanced, hok]
    clear hok
    go_wp2
    go_ret
    exact ⟨ret_bool (unhide HF).symm, unhide HW⟩
  | true =>
    by_cases h0 : W.length = 0
    · have HF : Hid (balanced W B st = false) := by show _ = _; simp [balanced, h0]
      have e0 : ((W.length : Int) == 0) = true := by rw [beq_iff_eq]; omega
      clear hok h0
      go_wp2
      go_ret
      exact ⟨ret_bool (unhide HF).symm, unhide HW⟩
    · have e0 : ((W.length : Int) == 0) = false := by rw [beq_eq_false_iff_ne]; omega
      have hp : 0 < W.length := by omega
      have HF : Hid (balanced W B st = (decide (shAt W B W.length = 0) && decide (beAt W B st W.length = 0))) := by show _ = _; simp [balanced, hok, hp]
      have hR := (beOk_r hok).1
      have hlen := hR.len
      obtain ⟨hn, g, rfl, hg, hcells⟩ := bend_cells (unhide HO) hok
      have HC := hide hcells
      have hn1 : (W.length : Int) < n1 := by omega
      have hsh : shOk W B = true := by simp only [beOk, Bool.and_eq_true] at hok; exact hok.1
      have HSH := hide hsh
      clear hn hcells HO hR hok h0 hsh
      go_wp2_with fail
      refine (implShear2_any _ _ W B _ ((unhide HV).below (unhide HW)) ((unhide HV').below (unhide HW))).mono ?_
      rintro e w2 ⟨a2, n2, c2, rfl, ho, hb⟩
      obtain ⟨hn, g2, rfl, hg2, hcells⟩ := shear_cells ho (unhide HSH)
      have hn2 : (W.length : Int) < n2 := by omega
      have q1 := (hb.cell hg).trans (unhide HC W.length (by omega))
      have q2 := hcells W.length (by omega)
      have HB := hide (Below.step (unhide HW) hb)
      clear hn hcells ho hb HC
      generalize shAt W B W.length = s at *
      generalize beAt W B st W.length = t at *
      by_cases hs : s = 0 <;> by_cases ht : t = 0
      all_goals
        have HX : Hid (balanced W B st = (decide (s = 0) && decide (t = 0))) := HF
        have es : (s == 0) = decide (s = 0) := rfl
        have et : (t == 0) = decide (t = 0) := rfl
        simp only [hs, ht] at HX es et
        clear HF
        go_wp2
        go_ret
        exact ⟨ret_bool (by rw [unhide HX]; simp), unhide HB⟩

set_option maxHeartbeats 1000000 in
theorem specBalanced_any (v v' : Value) (W B : List Int) (st : Int) (w : World) (h : IntsIn w v W) (h' : IntsIn w v' B) :
    Calls Try.prog 31 #[v, v', .int .i64 st] w fun e w' => e = .returned (.bool (balanced W B st)) ∧ Below w.heap.size w w' := by
  have HV := hide h
  have HV' := hide h'
  obtain ⟨ao, cap, rfl, hl, hm, hc⟩ := h
  obtain ⟨ao', cap', rfl, hl', hm', hc'⟩ := h'
  unfold maxLen at hm hm'
  clear hc hc'
  go_enter Try.func31, Try.ntmps31
  go_wp2_with fail
  refine (specShear2_any _ _ W B _ (unhide HV) (unhide HV')).mono ?_
  rintro e w1 ⟨a1, n1, c1, rfl, ho, hb⟩
  have HO := hide ho
  have HW := hide hb
  clear ho hb
  go_wp2_with fail
  refine (specBending4_any _ _ W B st _ ((unhide HV).below (unhide HW)) ((unhide HV').below (unhide HW))).mono ?_
  rintro e w2 ⟨a2, n2, c2, rfl, ho, hb⟩
  have HO2 := hide ho
  have HW2 := hide (Below.step (unhide HW) hb)
  have HB := hide hb
  clear ho hb
  cases hok : beOk W B st with
  | false =>
    have HF : Hid (balanced W B st = false) := by show _ = _; simp [balanced, hok]
    clear hok
    cases hsh : shOk W B
    all_goals
      go_wp2
      go_ret
      exact ⟨ret_bool (unhide HF).symm, unhide HW2⟩
  | true =>
    have hsh : shOk W B = true := by simp only [beOk, Bool.and_eq_true] at hok; exact hok.1
    by_cases h0 : W.length = 0
    · have HF : Hid (balanced W B st = false) := by show _ = _; simp [balanced, h0]
      have e0 : (W.length : Int) ≤ 0 := by omega
      clear hok h0
      rw [hsh]
      clear hsh
      go_wp2
      go_ret
      exact ⟨ret_bool (unhide HF).symm, unhide HW2⟩
    · have hp : 0 < W.length := by omega
      have hpi : (0 : Int) < W.length := by omega
      have HF : Hid (balanced W B st = (decide (shAt W B W.length = 0) && decide (beAt W B st W.length = 0))) := by show _ = _; simp [balanced, hok, hp]
      obtain ⟨hn, g, rfl, hg, hcells⟩ := bend_cells (unhide HO2) hok
      have hn1 : (W.length : Int) < n2 := by omega
      obtain ⟨hn', g2, rfl, hg2, hcells'⟩ := shear_cells (unhide HO) hsh
      have hn2 : (W.length : Int) < n1 := by omega
      have q1 := hcells W.length (by omega)
      have q2 := ((unhide HB).cell hg2).trans (hcells' W.length (by omega))
      rw [hsh]
      clear hn hn' hcells hcells' HO HO2 hok h0 hsh HB
      generalize shAt W B W.length = s at *
      generalize beAt W B st W.length = t at *
      by_cases hs : s = 0 <;> by_cases ht : t = 0
      all_goals
        have HX : Hid (balanced W B st = (decide (s = 0) && decide (t = 0))) := HF
        have es : (s == 0) = decide (s = 0) := rfl
        have et : (t == 0) = decide (t = 0) := rfl
        simp only [hs, ht] at HX es et
        clear HF
        go_wp2
        go_ret
        exact ⟨ret_bool (by rw [unhide HX]; simp), unhide HW2⟩

end Go.Proofs.Ytliodmahbdmcbaa
