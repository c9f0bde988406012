/- Contracts of both SwayOk, Swing1 and HoistOk. Written by wip/mk20a.py. -/
import Derived.Test.YtkfdcpnbpmipkaaHoM
import Derived.Test.YtkfdcpnbpmipkaaWalkE
import Derived.Test.YtkfdcpnbpmipkaaWalkF
import Derived.Test.YtkfdcpnbpmipkaaRgI
namespace Go.Proofs.Ytkfdcpnbpmipkaa
open Go.RowKit

theorem l20Number_any (x : Int) (w : World) : Calls Try.prog 25 #[.int .i64 x] w fun e w' => e = .returned (.bool (inB x (-1000000) 1000000)) ∧ w' = w := by
  go_enter Try.func25, Try.ntmps25
  go_wp2_with (go_at_call 26; refine (l1In_any _ _ _ _).mono ?_; rintro e w' ⟨rfl, h9⟩; have h8 := h9.symm; subst h8; clear h9)
  go_ret
  exact ⟨rfl, rfl⟩
theorem isPush_any (x : Int) (w : World) : Calls Try.prog 24 #[.int .i64 x] w fun e w' => e = .returned (.bool (inB x (-1000) 1000)) ∧ w' = w := by
  go_enter Try.func24, Try.ntmps24
  go_wp2_with (go_at_call 22; refine (within_any _ _ _ _).mono ?_; rintro e w' ⟨rfl, h9⟩; have h8 := h9.symm; subst h8; clear h9)
  go_ret
  exact ⟨rfl, rfl⟩
set_option maxHeartbeats 3200000 in
theorem specSwayOk_any (a o s : Int) (w : World) :
    Calls Try.prog 15 #[vSway a o s] w fun e w' => e = .returned (.bool (swB a o s)) ∧ Below w.heap.size w w' := by
  have HW := hide (Below.alloc1 w (.cells #[.int .i64 a, .int .i64 o, .int .i64 s] 31))
  cases h1 : inB a (-1000000) 1000000
  · skip
    have HN : Hid (swB a o s = false) := by show _ = _; unfold swB; rw [h1]; rfl
    unfold vSway
    go_enter Try.func15, Try.ntmps15
    go_wp2_with (first | (go_at_call 25; refine (l20Number_any _ _).mono ?_; rintro e w' ⟨rfl, h9⟩; have h8 := h9.symm; subst h8; clear h9))
    go_ret
    exact ⟨ret_bool (unhide HN).symm, unhide HW⟩
  cases h2 : inB o (-1000000) 1000000
  · skip
    have HN : Hid (swB a o s = false) := by show _ = _; unfold swB; rw [h1, h2]; rfl
    unfold vSway
    go_enter Try.func15, Try.ntmps15
    go_wp2_with (first | (go_at_call 25; refine (l20Number_any _ _).mono ?_; rintro e w' ⟨rfl, h9⟩; have h8 := h9.symm; subst h8; clear h9))
    go_ret
    exact ⟨ret_bool (unhide HN).symm, unhide HW⟩
  cases h3 : inB s (-1000000) 1000000
  · skip
    have HN : Hid (swB a o s = false) := by show _ = _; unfold swB; rw [h1, h2, h3]; rfl
    unfold vSway
    go_enter Try.func15, Try.ntmps15
    go_wp2_with (first | (go_at_call 25; refine (l20Number_any _ _).mono ?_; rintro e w' ⟨rfl, h9⟩; have h8 := h9.symm; subst h8; clear h9))
    go_ret
    exact ⟨ret_bool (unhide HN).symm, unhide HW⟩
  have HN : Hid (swB a o s = true) := by show _ = _; unfold swB; rw [h1, h2, h3]; rfl
  unfold vSway
  go_enter Try.func15, Try.ntmps15
  go_wp2_with (first | (go_at_call 25; refine (l20Number_any _ _).mono ?_; rintro e w' ⟨rfl, h9⟩; have h8 := h9.symm; subst h8; clear h9))
  go_ret
  exact ⟨ret_bool (unhide HN).symm, unhide HW⟩

set_option maxHeartbeats 3200000 in
theorem implSwayOk_any (a o s : Int) (w : World) :
    Calls Try.prog 14 #[vSway a o s] w fun e w' => e = .returned (.bool (swB a o s)) ∧ Below w.heap.size w w' := by
  have HW := hide (Below.alloc1 w (.cells #[.int .i64 a, .int .i64 o, .int .i64 s] 31))
  cases h1 : inB a (-1000000) 1000000
  · skip
    have HN : Hid (swB a o s = false) := by show _ = _; unfold swB; rw [h1]; rfl
    unfold vSway
    go_enter Try.func14, Try.ntmps14
    go_wp2_with (first | (go_at_call 22; refine (within_any _ _ _ _).mono ?_; rintro e w' ⟨rfl, h9⟩; have h8 := h9.symm; subst h8; clear h9))
    go_ret
    exact ⟨ret_bool (unhide HN).symm, unhide HW⟩
  cases h2 : inB o (-1000000) 1000000
  · skip
    have HN : Hid (swB a o s = false) := by show _ = _; unfold swB; rw [h1, h2]; rfl
    unfold vSway
    go_enter Try.func14, Try.ntmps14
    go_wp2_with (first | (go_at_call 22; refine (within_any _ _ _ _).mono ?_; rintro e w' ⟨rfl, h9⟩; have h8 := h9.symm; subst h8; clear h9))
    go_ret
    exact ⟨ret_bool (unhide HN).symm, unhide HW⟩
  cases h3 : inB s (-1000000) 1000000
  · skip
    have HN : Hid (swB a o s = false) := by show _ = _; unfold swB; rw [h1, h2, h3]; rfl
    unfold vSway
    go_enter Try.func14, Try.ntmps14
    go_wp2_with (first | (go_at_call 22; refine (within_any _ _ _ _).mono ?_; rintro e w' ⟨rfl, h9⟩; have h8 := h9.symm; subst h8; clear h9))
    go_ret
    exact ⟨ret_bool (unhide HN).symm, unhide HW⟩
  have HN : Hid (swB a o s = true) := by show _ = _; unfold swB; rw [h1, h2, h3]; rfl
  unfold vSway
  go_enter Try.func14, Try.ntmps14
  go_wp2_with (first | (go_at_call 22; refine (within_any _ _ _ _).mono ?_; rintro e w' ⟨rfl, h9⟩; have h8 := h9.symm; subst h8; clear h9))
  go_ret
  exact ⟨ret_bool (unhide HN).symm, unhide HW⟩

theorem hoB_eq (h : Ho) : hoB h = (inB h.q 0 3 && inB h.rs 0 1 && inB h.ld 0 1000000 && inB h.lm 0 1000000 && decide (0 ≤ h.lw) && inB h.he h.lw h.hg && decide (h.hg ≤ 10000)) := by
  unfold hoB
  cases inB h.q 0 3 <;> cases inB h.rs 0 1 <;> cases inB h.ld 0 1000000 <;> cases inB h.lm 0 1000000 <;> simp only [inB, Bool.and_true, Bool.true_and, Bool.and_false, Bool.false_and]
  rw [Bool.eq_iff_iff]
  simp only [Bool.and_eq_true, decide_eq_true_eq]
  omega
def hoB2 (h : Ho) : Bool := inB h.q 0 3 && inB h.rs 0 1 && inB h.ld 0 1000000 && inB h.lm 0 1000000 && decide (0 ≤ h.lw) && inB h.he h.lw h.hg && decide (h.hg ≤ 10000)

set_option maxRecDepth 10000 in
set_option maxHeartbeats 6400000 in
theorem implSwing1_any (a o s p : Int) (w : World) : Calls Try.prog 13 #[vSway a o s, .int .i64 p] w fun e w' => e = .returned (.tuple #[swgV a o s p, .bool (swgB a o s p)]) ∧ Below w.heap.size w w' := by
  have HB := hide (bk_two w #[.int .i64 a, .int .i64 o, .int .i64 s] #[.int .i64 0, .int .i64 0, .int .i64 0] 31 31)
  have HS1 := hide fun W => implSwayOk_any a o s W
  unfold vSway at HS1 ⊢
  go_enter Try.func13, Try.ntmps13
  go_wp2_with fail
  refine (unhide HS1 _).mono ?_
  rintro e w1 ⟨rfl, hb⟩
  replace HB := hide ((unhide HB).step hb)
  clear hb HS1
  cases h1 : swB a o s
  · have HN : Hid (swgB a o s p = false) := by show _ = _; unfold swgB; rw [h1]; rfl
    clear h1
    have hq := (unhide HB).ownV (k := 1) rfl
    have d0 := hq.cell (i := 0) rfl
    have d1 := hq.cell (i := 1) rfl
    have d2 := hq.cell (i := 2) rfl
    have df0 := hq.frozen 0
    have df1 := hq.frozen 1
    have df2 := hq.frozen 2
    clear hq
    have HW := hide (((((unhide HB).set (k := 1) (g := w.heap.size + 1) (vs := [.int .i64 0, .int .i64 0, .int .i64 0]) rfl 0 (.int .i64 0) (by simp)).set (k := 1) (g := w.heap.size + 1) (vs := [.int .i64 0, .int .i64 0, .int .i64 0]) (by simp) 1 (.int .i64 0) (by simp)).set (k := 1) (g := w.heap.size + 1) (vs := [.int .i64 0, .int .i64 0, .int .i64 0]) (by simp) 2 (.int .i64 0) (by simp))).below
    go_wp2
    refine bodyPost_ret (v := .tuple #[vSway 0 0 0, .bool false]) (by simp [results, Try.results13, go_sem, vSway, d0, d1, d2]) rfl ⟨by rw [swgV, unhide HN]; rfl, unhide HW⟩
  cases h2 : inB p (-1000) 1000
  · have HN : Hid (swgB a o s p = false) := by show _ = _; unfold swgB; rw [h1, h2]; rfl
    clear h1
    have hq := (unhide HB).ownV (k := 1) rfl
    have d0 := hq.cell (i := 0) rfl
    have d1 := hq.cell (i := 1) rfl
    have d2 := hq.cell (i := 2) rfl
    have df0 := hq.frozen 0
    have df1 := hq.frozen 1
    have df2 := hq.frozen 2
    clear hq
    have HW := hide (((((unhide HB).set (k := 1) (g := w.heap.size + 1) (vs := [.int .i64 0, .int .i64 0, .int .i64 0]) rfl 0 (.int .i64 0) (by simp)).set (k := 1) (g := w.heap.size + 1) (vs := [.int .i64 0, .int .i64 0, .int .i64 0]) (by simp) 1 (.int .i64 0) (by simp)).set (k := 1) (g := w.heap.size + 1) (vs := [.int .i64 0, .int .i64 0, .int .i64 0]) (by simp) 2 (.int .i64 0) (by simp))).below
    go_wp2_with (go_at_call 24; refine (isPush_any _ _).mono ?_; rintro e w' ⟨rfl, h9⟩; have h8 := h9.symm; subst h8; clear h9)
    refine bodyPost_ret (v := .tuple #[vSway 0 0 0, .bool false]) (by simp [results, Try.results13, go_sem, vSway, d0, d1, d2]) rfl ⟨by rw [swgV, unhide HN]; rfl, unhide HW⟩
  obtain ⟨b0, b1, b2, b3, b4, b5⟩ := swB_bd h1
  obtain ⟨m0, m1⟩ := inB_true h2
  have HM : Hid (swgB a o s p = swB (a + p) s (p - o)) := by show _ = _; unfold swgB; rw [h1, h2]; rfl
  have HMV : Hid (swgB a o s p = true → swgV a o s p = vSway (a + p) s (p - o)) := by show _ → _; intro h; rw [swgV, h]; rfl
  have HS2 := hide fun W => implSwayOk_any (a + p) s (p - o) W
  unfold vSway at HS2
  clear h1
  have hq := (unhide HB).ownV (k := 0) rfl
  have c0 := hq.cell (i := 0) rfl
  have c1 := hq.cell (i := 1) rfl
  have c2 := hq.cell (i := 2) rfl
  clear hq
  replace HB := hide ((unhide HB).made 2 #[.int .i64 (a + p), .int .i64 s, .int .i64 (p - o)] 31)
  go_wp2_with (first | (go_at_call 24; refine (isPush_any _ _).mono ?_; rintro e w' ⟨rfl, h9⟩; have h8 := h9.symm; subst h8; clear h9) | fail)
  refine (unhide HS2 _).mono ?_
  rintro e w3 ⟨rfl, hb⟩
  replace HB := hide ((unhide HB).step hb)
  clear hb HS2 c0 c1 c2
  cases h4 : swB (a + p) s (p - o)
  · have HN : Hid (swgB a o s p = false) := (unhide HM).trans h4
    clear h4 HM HMV
    have hq := (unhide HB).ownV (k := 1) rfl
    have d0 := hq.cell (i := 0) rfl
    have d1 := hq.cell (i := 1) rfl
    have d2 := hq.cell (i := 2) rfl
    have df0 := hq.frozen 0
    have df1 := hq.frozen 1
    have df2 := hq.frozen 2
    clear hq
    have HW := hide (((((unhide HB).set (k := 1) (g := w.heap.size + 1) (vs := [.int .i64 0, .int .i64 0, .int .i64 0]) rfl 0 (.int .i64 0) (by simp)).set (k := 1) (g := w.heap.size + 1) (vs := [.int .i64 0, .int .i64 0, .int .i64 0]) (by simp) 1 (.int .i64 0) (by simp)).set (k := 1) (g := w.heap.size + 1) (vs := [.int .i64 0, .int .i64 0, .int .i64 0]) (by simp) 2 (.int .i64 0) (by simp))).below
    go_wp2
    refine bodyPost_ret (v := .tuple #[vSway 0 0 0, .bool false]) (by simp [results, Try.results13, go_sem, vSway, d0, d1, d2]) rfl ⟨by rw [swgV, unhide HN]; rfl, unhide HW⟩
  have HN : Hid (swgB a o s p = true) := (unhide HM).trans h4
  clear h4 HM
  have hq := (unhide HB).ownV (k := 2) rfl
  have c0 := hq.cell (i := 0) rfl
  have c1 := hq.cell (i := 1) rfl
  have c2 := hq.cell (i := 2) rfl
  clear hq
  have hq := (unhide HB).ownV (k := 1) rfl
  have d0 := hq.cell (i := 0) rfl
  have d1 := hq.cell (i := 1) rfl
  have d2 := hq.cell (i := 2) rfl
  have df0 := hq.frozen 0
  have df1 := hq.frozen 1
  have df2 := hq.frozen 2
  clear hq
  have HW := hide (((((unhide HB).set (k := 1) (g := w.heap.size + 1) (vs := [.int .i64 0, .int .i64 0, .int .i64 0]) rfl 0 (.int .i64 (a + p)) (by simp)).set (k := 1) (g := w.heap.size + 1) (vs := [.int .i64 (a + p), .int .i64 0, .int .i64 0]) (by simp) 1 (.int .i64 s) (by simp)).set (k := 1) (g := w.heap.size + 1) (vs := [.int .i64 (a + p), .int .i64 s, .int .i64 0]) (by simp) 2 (.int .i64 (p - o)) (by simp))).below
  go_wp2
  refine bodyPost_ret (v := .tuple #[vSway (a + p) s (p - o), .bool true]) (by simp [results, Try.results13, go_sem, vSway, d0, d1, d2]) rfl ⟨by rw [unhide HMV (unhide HN), unhide HN], unhide HW⟩

set_option maxRecDepth 10000 in
set_option maxHeartbeats 6400000 in
theorem specSwing1_any (a o s p : Int) (w : World) : Calls Try.prog 17 #[vSway a o s, .int .i64 p] w fun e w' => e = .returned (.tuple #[swgV a o s p, .bool (swgB a o s p)]) ∧ Below w.heap.size w w' := by
  have HB := hide (bk_two w #[.int .i64 a, .int .i64 o, .int .i64 s] #[.int .i64 0, .int .i64 0, .int .i64 0] 31 31)
  have HS1 := hide fun W => specSwayOk_any a o s W
  unfold vSway at HS1 ⊢
  go_enter Try.func17, Try.ntmps17
  go_wp2_with fail
  refine (unhide HS1 _).mono ?_
  rintro e w1 ⟨rfl, hb⟩
  replace HB := hide ((unhide HB).step hb)
  clear hb HS1
  cases h1 : swB a o s
  · have HN : Hid (swgB a o s p = false) := by show _ = _; unfold swgB; rw [h1]; rfl
    clear h1
    have hq := (unhide HB).ownV (k := 1) rfl
    have d0 := hq.cell (i := 0) rfl
    have d1 := hq.cell (i := 1) rfl
    have d2 := hq.cell (i := 2) rfl
    have df0 := hq.frozen 0
    have df1 := hq.frozen 1
    have df2 := hq.frozen 2
    clear hq
    have HW := hide (((((unhide HB).set (k := 1) (g := w.heap.size + 1) (vs := [.int .i64 0, .int .i64 0, .int .i64 0]) rfl 0 (.int .i64 0) (by simp)).set (k := 1) (g := w.heap.size + 1) (vs := [.int .i64 0, .int .i64 0, .int .i64 0]) (by simp) 1 (.int .i64 0) (by simp)).set (k := 1) (g := w.heap.size + 1) (vs := [.int .i64 0, .int .i64 0, .int .i64 0]) (by simp) 2 (.int .i64 0) (by simp))).below
    go_wp2
    refine bodyPost_ret (v := .tuple #[vSway 0 0 0, .bool false]) (by simp [results, Try.results17, go_sem, vSway, d0, d1, d2]) rfl ⟨by rw [swgV, unhide HN]; rfl, unhide HW⟩
  cases h2 : inB p (-1000) 1000
  · have HN : Hid (swgB a o s p = false) := by show _ = _; unfold swgB; rw [h1, h2]; rfl
    clear h1
    have hq := (unhide HB).ownV (k := 1) rfl
    have d0 := hq.cell (i := 0) rfl
    have d1 := hq.cell (i := 1) rfl
    have d2 := hq.cell (i := 2) rfl
    have df0 := hq.frozen 0
    have df1 := hq.frozen 1
    have df2 := hq.frozen 2
    clear hq
    have HW := hide (((((unhide HB).set (k := 1) (g := w.heap.size + 1) (vs := [.int .i64 0, .int .i64 0, .int .i64 0]) rfl 0 (.int .i64 0) (by simp)).set (k := 1) (g := w.heap.size + 1) (vs := [.int .i64 0, .int .i64 0, .int .i64 0]) (by simp) 1 (.int .i64 0) (by simp)).set (k := 1) (g := w.heap.size + 1) (vs := [.int .i64 0, .int .i64 0, .int .i64 0]) (by simp) 2 (.int .i64 0) (by simp))).below
    go_wp2_with (go_at_call 26; refine (l1In_any _ _ _ _).mono ?_; rintro e w' ⟨rfl, h9⟩; have h8 := h9.symm; subst h8; clear h9)
    refine bodyPost_ret (v := .tuple #[vSway 0 0 0, .bool false]) (by simp [results, Try.results17, go_sem, vSway, d0, d1, d2]) rfl ⟨by rw [swgV, unhide HN]; rfl, unhide HW⟩
  obtain ⟨b0, b1, b2, b3, b4, b5⟩ := swB_bd h1
  obtain ⟨m0, m1⟩ := inB_true h2
  have HM : Hid (swgB a o s p = swB (a + p) s (p - o)) := by show _ = _; unfold swgB; rw [h1, h2]; rfl
  have HMV : Hid (swgB a o s p = true → swgV a o s p = vSway (a + p) s (p - o)) := by show _ → _; intro h; rw [swgV, h]; rfl
  have HS2 := hide fun W => specSwayOk_any (a + p) s (p - o) W
  unfold vSway at HS2
  clear h1
  have hq := (unhide HB).ownV (k := 0) rfl
  have c0 := hq.cell (i := 0) rfl
  have c1 := hq.cell (i := 1) rfl
  have c2 := hq.cell (i := 2) rfl
  clear hq
  replace HB := hide ((unhide HB).made 2 #[.int .i64 (a + p), .int .i64 s, .int .i64 (p - o)] 31)
  go_wp2_with (first | (go_at_call 26; refine (l1In_any _ _ _ _).mono ?_; rintro e w' ⟨rfl, h9⟩; have h8 := h9.symm; subst h8; clear h9) | fail)
  refine (unhide HS2 _).mono ?_
  rintro e w3 ⟨rfl, hb⟩
  replace HB := hide ((unhide HB).step hb)
  clear hb HS2 c0 c1 c2
  cases h4 : swB (a + p) s (p - o)
  · have HN : Hid (swgB a o s p = false) := (unhide HM).trans h4
    clear h4 HM HMV
    have hq := (unhide HB).ownV (k := 1) rfl
    have d0 := hq.cell (i := 0) rfl
    have d1 := hq.cell (i := 1) rfl
    have d2 := hq.cell (i := 2) rfl
    have df0 := hq.frozen 0
    have df1 := hq.frozen 1
    have df2 := hq.frozen 2
    clear hq
    have HW := hide (((((unhide HB).set (k := 1) (g := w.heap.size + 1) (vs := [.int .i64 0, .int .i64 0, .int .i64 0]) rfl 0 (.int .i64 0) (by simp)).set (k := 1) (g := w.heap.size + 1) (vs := [.int .i64 0, .int .i64 0, .int .i64 0]) (by simp) 1 (.int .i64 0) (by simp)).set (k := 1) (g := w.heap.size + 1) (vs := [.int .i64 0, .int .i64 0, .int .i64 0]) (by simp) 2 (.int .i64 0) (by simp))).below
    go_wp2
    refine bodyPost_ret (v := .tuple #[vSway 0 0 0, .bool false]) (by simp [results, Try.results17, go_sem, vSway, d0, d1, d2]) rfl ⟨by rw [swgV, unhide HN]; rfl, unhide HW⟩
  have HN : Hid (swgB a o s p = true) := (unhide HM).trans h4
  clear h4 HM
  have hq := (unhide HB).ownV (k := 2) rfl
  have c0 := hq.cell (i := 0) rfl
  have c1 := hq.cell (i := 1) rfl
  have c2 := hq.cell (i := 2) rfl
  clear hq
  have hq := (unhide HB).ownV (k := 1) rfl
  have d0 := hq.cell (i := 0) rfl
  have d1 := hq.cell (i := 1) rfl
  have d2 := hq.cell (i := 2) rfl
  have df0 := hq.frozen 0
  have df1 := hq.frozen 1
  have df2 := hq.frozen 2
  clear hq
  have HW := hide (((((unhide HB).set (k := 1) (g := w.heap.size + 1) (vs := [.int .i64 0, .int .i64 0, .int .i64 0]) rfl 0 (.int .i64 (a + p)) (by simp)).set (k := 1) (g := w.heap.size + 1) (vs := [.int .i64 (a + p), .int .i64 0, .int .i64 0]) (by simp) 1 (.int .i64 s) (by simp)).set (k := 1) (g := w.heap.size + 1) (vs := [.int .i64 (a + p), .int .i64 s, .int .i64 0]) (by simp) 2 (.int .i64 (p - o)) (by simp))).below
  go_wp2
  refine bodyPost_ret (v := .tuple #[vSway (a + p) s (p - o), .bool true]) (by simp [results, Try.results17, go_sem, vSway, d0, d1, d2]) rfl ⟨by rw [unhide HMV (unhide HN), unhide HN], unhide HW⟩

end Go.Proofs.Ytkfdcpnbpmipkaa
