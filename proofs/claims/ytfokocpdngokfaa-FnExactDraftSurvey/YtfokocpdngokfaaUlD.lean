/- Contracts of both DraftSurvey. Written by wip/mkul.py. -/
import Derived.Test.YtfokocpdngokfaaEnE
namespace Go.Proofs.Ytfokocpdngokfaa
open Go.RowKit

def dsOk (f m a p : Int) : Bool := inB f 0 20000 && (inB m 0 20000 && (inB a 0 20000 && inB p 1 1000))
def dsV (f m a p : Int) : Int × Bool := if dsOk f m a p = true then (((f + 6 * m + a) * p + 4) / 8, true) else (0, false)
theorem dsV_not {f m a p : Int} (h : dsOk f m a p = false) : dsV f m a p = (0, false) := if_neg (by rw [h]; simp)
set_option maxHeartbeats 400000 in
theorem isDraft_any (x : Int) (w : World) : Calls Try.prog 49 #[.int .i64 x] w fun e w' => e = .returned (.bool (inB x 0 20000)) ∧ w' = w := by
  have Q := hide fun V => within_any x 0 20000 V
  go_enter Try.func49, Try.ntmps49
  go_wp2_with fail
  refine (unhide Q _).mono ?_
  rintro e w9 ⟨rfl, h9⟩
  have h8 := h9.symm
  subst h8
  clear h9
  go_wp2
  go_ret
  exact ⟨rfl, rfl⟩

set_option maxRecDepth 1000000 in
set_option maxHeartbeats 4000000 in
theorem specDraftSurvey_any (f m a p : Int) (w : World) :
    Calls Try.prog 36 #[.int .i64 f, .int .i64 m, .int .i64 a, .int .i64 p] w fun e w' => e = .returned (.tuple #[.int .i64 (dsV f m a p).1, .bool (dsV f m a p).2]) ∧ Below w.heap.size w w' := by
  have HW := hide (Below.refl w.heap.size w)
  have Q1 := hide fun V => l1In_any f 0 20000 V
  have Q2 := hide fun V => l1In_any m 0 20000 V
  have Q3 := hide fun V => l1In_any a 0 20000 V
  have Q4 := hide fun V => l1In_any p 1 1000 V
  have HNOT : Hid ((inB f 0 20000 && (inB m 0 20000 && (inB a 0 20000 && inB p 1 1000))) = false → dsV f m a p = (0, false)) := dsV_not
  have HYES : Hid (inB f 0 20000 = true → inB m 0 20000 = true → inB a 0 20000 = true → inB p 1 1000 = true → (0 ≤ f ∧ f ≤ 20000) ∧ (0 ≤ m ∧ m ≤ 20000) ∧ (0 ≤ a ∧ a ≤ 20000) ∧ (1 ≤ p ∧ p ≤ 1000) ∧ dsV f m a p = (((f + 6 * m + a) * p + 4) / 8, true)) := fun h1 h2 h3 h4 => ⟨inB_true h1, inB_true h2, inB_true h3, inB_true h4, if_pos (by unfold dsOk; rw [h1, h2, h3, h4]; rfl)⟩
  generalize inB f 0 20000 = b1 at Q1 HNOT HYES
  generalize inB m 0 20000 = b2 at Q2 HNOT HYES
  generalize inB a 0 20000 = b3 at Q3 HNOT HYES
  generalize inB p 1 1000 = b4 at Q4 HNOT HYES
  go_enter Try.func36, Try.ntmps36
  go_wp2_with fail
  refine (unhide Q1 _).mono ?_
  rintro e w9 ⟨rfl, h9⟩
  have h8 := h9.symm
  subst h8
  clear h9
  cases b1 with
  | false =>
    have HF := hide (unhide HNOT (by first | rfl | simp))
    go_wp2
    refine bodyPost_ret (v := .tuple #[.int .i64 0, .bool false]) (by simp [results, Try.results36, go_sem]) rfl ⟨ret_burn (unhide HF), unhide HW⟩
  | true =>
  clear Q1
  go_wp2_with fail
  refine (unhide Q2 _).mono ?_
  rintro e w9 ⟨rfl, h9⟩
  have h8 := h9.symm
  subst h8
  clear h9
  cases b2 with
  | false =>
    have HF := hide (unhide HNOT (by first | rfl | simp))
    go_wp2
    refine bodyPost_ret (v := .tuple #[.int .i64 0, .bool false]) (by simp [results, Try.results36, go_sem]) rfl ⟨ret_burn (unhide HF), unhide HW⟩
  | true =>
  clear Q2
  go_wp2_with fail
  refine (unhide Q3 _).mono ?_
  rintro e w9 ⟨rfl, h9⟩
  have h8 := h9.symm
  subst h8
  clear h9
  cases b3 with
  | false =>
    have HF := hide (unhide HNOT (by first | rfl | simp))
    go_wp2
    refine bodyPost_ret (v := .tuple #[.int .i64 0, .bool false]) (by simp [results, Try.results36, go_sem]) rfl ⟨ret_burn (unhide HF), unhide HW⟩
  | true =>
  clear Q3
  go_wp2_with fail
  refine (unhide Q4 _).mono ?_
  rintro e w9 ⟨rfl, h9⟩
  have h8 := h9.symm
  subst h8
  clear h9
  cases b4 with
  | false =>
    have HF := hide (unhide HNOT (by first | rfl | simp))
    go_wp2
    refine bodyPost_ret (v := .tuple #[.int .i64 0, .bool false]) (by simp [results, Try.results36, go_sem]) rfl ⟨ret_burn (unhide HF), unhide HW⟩
  | true =>
  clear Q4
  obtain ⟨⟨f0, f1⟩, ⟨m0, m1⟩, ⟨a0, a1⟩, ⟨p0, p1⟩, eB⟩ := unhide HYES (by first | rfl | trivial) (by first | rfl | trivial) (by first | rfl | trivial) (by first | rfl | trivial)
  have hp0 : 0 ≤ (f + 6 * m + a) * p := Int.mul_nonneg (by omega) (by omega)
  have hp1 : (f + 6 * m + a) * p ≤ 160000 * 1000 := Int.mul_le_mul (by omega) (by omega) (by omega) (by omega)
  obtain ⟨r, er⟩ : ∃ r, r = (f + 6 * m + a) * p := ⟨_, rfl⟩
  rw [← er] at hp0 hp1 eB
  have q1 : IntKind.i64.wrap ((f + 6 * m + a) * p) = r := by rw [← er, IntKind.wrap_i64]; omega
  have q2 : (r + 4).tdiv 8 = (r + 4) / 8 := Int.tdiv_eq_ediv_of_nonneg (by omega)
  have HF := hide eB
  clear er eB HYES HNOT
  go_wp2
  refine bodyPost_ret (v := .tuple #[.int .i64 ((r + 4) / 8), .bool true]) (by simp [results, Try.results36, go_sem]) rfl ⟨ret_burn (unhide HF), unhide HW⟩

set_option maxRecDepth 1000000 in
set_option maxHeartbeats 4000000 in
theorem implDraftSurvey_any (f m a p : Int) (w : World) :
    Calls Try.prog 17 #[.int .i64 f, .int .i64 m, .int .i64 a, .int .i64 p] w fun e w' => e = .returned (.tuple #[.int .i64 (dsV f m a p).1, .bool (dsV f m a p).2]) ∧ Below w.heap.size w w' := by
  have HW := hide (Below.refl w.heap.size w)
  have Q1 := hide fun V => isDraft_any f V
  have Q2 := hide fun V => isDraft_any m V
  have Q3 := hide fun V => isDraft_any a V
  have Q4 := hide fun V => within_any p 1 1000 V
  have HNOT : Hid ((inB f 0 20000 && (inB m 0 20000 && (inB a 0 20000 && inB p 1 1000))) = false → dsV f m a p = (0, false)) := dsV_not
  have HYES : Hid (inB f 0 20000 = true → inB m 0 20000 = true → inB a 0 20000 = true → inB p 1 1000 = true → (0 ≤ f ∧ f ≤ 20000) ∧ (0 ≤ m ∧ m ≤ 20000) ∧ (0 ≤ a ∧ a ≤ 20000) ∧ (1 ≤ p ∧ p ≤ 1000) ∧ dsV f m a p = (((f + 6 * m + a) * p + 4) / 8, true)) := fun h1 h2 h3 h4 => ⟨inB_true h1, inB_true h2, inB_true h3, inB_true h4, if_pos (by unfold dsOk; rw [h1, h2, h3, h4]; rfl)⟩
  generalize inB f 0 20000 = b1 at Q1 HNOT HYES
  generalize inB m 0 20000 = b2 at Q2 HNOT HYES
  generalize inB a 0 20000 = b3 at Q3 HNOT HYES
  generalize inB p 1 1000 = b4 at Q4 HNOT HYES
  go_enter Try.func17, Try.ntmps17
  go_wp2_with fail
  refine (unhide Q1 _).mono ?_
  rintro e w9 ⟨rfl, h9⟩
  have h8 := h9.symm
  subst h8
  clear h9
  cases b1 with
  | false =>
    have HF := hide (unhide HNOT (by first | rfl | simp))
    go_wp2
    refine bodyPost_ret (v := .tuple #[.int .i64 0, .bool false]) (by simp [results, Try.results17, go_sem]) rfl ⟨ret_burn (unhide HF), unhide HW⟩
  | true =>
  clear Q1
  go_wp2_with fail
  refine (unhide Q2 _).mono ?_
  rintro e w9 ⟨rfl, h9⟩
  have h8 := h9.symm
  subst h8
  clear h9
  cases b2 with
  | false =>
    have HF := hide (unhide HNOT (by first | rfl | simp))
    go_wp2
    refine bodyPost_ret (v := .tuple #[.int .i64 0, .bool false]) (by simp [results, Try.results17, go_sem]) rfl ⟨ret_burn (unhide HF), unhide HW⟩
  | true =>
  clear Q2
  go_wp2_with fail
  refine (unhide Q3 _).mono ?_
  rintro e w9 ⟨rfl, h9⟩
  have h8 := h9.symm
  subst h8
  clear h9
  cases b3 with
  | false =>
    have HF := hide (unhide HNOT (by first | rfl | simp))
    go_wp2
    refine bodyPost_ret (v := .tuple #[.int .i64 0, .bool false]) (by simp [results, Try.results17, go_sem]) rfl ⟨ret_burn (unhide HF), unhide HW⟩
  | true =>
  clear Q3
  go_wp2_with fail
  refine (unhide Q4 _).mono ?_
  rintro e w9 ⟨rfl, h9⟩
  have h8 := h9.symm
  subst h8
  clear h9
  cases b4 with
  | false =>
    have HF := hide (unhide HNOT (by first | rfl | simp))
    go_wp2
    refine bodyPost_ret (v := .tuple #[.int .i64 0, .bool false]) (by simp [results, Try.results17, go_sem]) rfl ⟨ret_burn (unhide HF), unhide HW⟩
  | true =>
  clear Q4
  obtain ⟨⟨f0, f1⟩, ⟨m0, m1⟩, ⟨a0, a1⟩, ⟨p0, p1⟩, eB⟩ := unhide HYES (by first | rfl | trivial) (by first | rfl | trivial) (by first | rfl | trivial) (by first | rfl | trivial)
  have hp0 : 0 ≤ (f + 6 * m + a) * p := Int.mul_nonneg (by omega) (by omega)
  have hp1 : (f + 6 * m + a) * p ≤ 160000 * 1000 := Int.mul_le_mul (by omega) (by omega) (by omega) (by omega)
  obtain ⟨r, er⟩ : ∃ r, r = (f + 6 * m + a) * p := ⟨_, rfl⟩
  rw [← er] at hp0 hp1 eB
  have q1 : IntKind.i64.wrap ((f + 6 * m + a) * p) = r := by rw [← er, IntKind.wrap_i64]; omega
  have q2 : (r + 4).tdiv 8 = (r + 4) / 8 := Int.tdiv_eq_ediv_of_nonneg (by omega)
  have HF := hide eB
  clear er eB HYES HNOT
  go_wp2
  refine bodyPost_ret (v := .tuple #[.int .i64 ((r + 4) / 8), .bool true]) (by simp [results, Try.results17, go_sem]) rfl ⟨ret_burn (unhide HF), unhide HW⟩

end Go.Proofs.Ytfokocpdngokfaa
