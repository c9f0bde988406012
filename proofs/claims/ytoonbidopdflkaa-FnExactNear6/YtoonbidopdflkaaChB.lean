/- Contracts of the specification's l6Place, l6Depth, l6Feature and ChartOk. -/
import Derived.Test.YtoonbidopdflkaaChA
import Derived.Test.YtoonbidopdflkaaWalkE
namespace Go.Proofs.Ytoonbidopdflkaa
open Go.RowKit

def placeB (wd hg x y : Int) : Bool := inB x 0 (wd - 1) && inB y 0 (hg - 1)
def featB (wd hg : Int) (f : FeatureT) : Bool := inB f.1 1 1000000 && inB f.2.1 1 9 && placeB wd hg f.2.2.1 f.2.2.2.1 && decide (f.2.2.2.2.size ≤ 40)
/-- A chart in numbers. -/
structure Ch where
  wd : Int
  hg : Int
  D : List Int
  F : List FeatureT
  ed : Int
def headB (c : Ch) : Bool := inB c.wd 1 12 && inB c.hg 1 12 && decide ((c.D.length : Int) = c.wd * c.hg) && decide (c.F.length ≤ 30) && inB c.ed 0 1000000
def featsB (c : Ch) (i : Nat) : Bool := featB c.wd c.hg (c.F.getD i default) && (decide (i = 0) || decide ((c.F.getD (i - 1) default).1 < (c.F.getD i default).1))
def chartB (c : Ch) : Bool := headB c && c.D.all (fun d => inB d (-1000) 10000) && (List.range c.F.length).all (featsB c)

theorem l6Depth_any (d : Int) (w : World) : Calls Try.prog 64 #[.int .i64 d] w fun e w' => e = .returned (.bool (inB d (-1000) 10000)) ∧ w = w' := by
  go_enter Try.func64, Try.ntmps64
  go_wp2_with (go_at_call 63; refine (l1In_any _ _ _ _).mono ?_; rintro e w' ⟨rfl, rfl⟩)
  go_ret
  exact ⟨rfl, rfl⟩

set_option maxHeartbeats 800000 in
theorem l6Place_any (wd hg ed x y : Int) (dv fv : Value) (w : World) (hw0 : -9223372036854775807 ≤ wd) (hw1 : wd ≤ 9223372036854775807) (hh0 : -9223372036854775807 ≤ hg) (hh1 : hg ≤ 9223372036854775807) :
    Calls Try.prog 78 #[vChart wd hg dv fv ed, .int .i64 x, .int .i64 y] w fun e w' => e = .returned (.bool (placeB wd hg x y)) ∧ Below w.heap.size w w' := by
  have q1 : IntKind.i64.wrap (wd - 1) = wd - 1 := by rw [IntKind.wrap_i64]; omega
  have q2 : IntKind.i64.wrap (hg - 1) = hg - 1 := by rw [IntKind.wrap_i64]; omega
  have HB := hide (Below.alloc1 w (.cells #[.int .i64 wd, .int .i64 hg, dv, fv, .int .i64 ed] 27))
  obtain ⟨r, er⟩ : ∃ r, r = placeB wd hg x y := ⟨_, rfl⟩
  rw [← er]
  have ER := hide er
  clear er
  unfold placeB at ER
  unfold vChart
  cases h1 : inB x 0 (wd - 1) <;> cases h2 : inB y 0 (hg - 1)
  all_goals
    have e1 := unhide ER
    rw [h1, h2] at e1
    simp only [Bool.false_and, Bool.true_and] at e1
    subst e1
    clear ER
    go_enter Try.func78, Try.ntmps78
    go_wp2_with (go_at_call 63; refine (l1In_any _ _ _ _).mono ?_; rintro e w' ⟨rfl, rfl⟩)
    go_ret
    exact ⟨rfl, unhide HB⟩

set_option maxRecDepth 10000 in
set_option maxHeartbeats 1600000 in
theorem l6Feature_any (wd hg ed : Int) (dv fv : Value) (x0 x1 x2 x3 : Int) (x4 : ByteArray) (w : World) (hw0 : 1 ≤ wd) (hw1 : wd ≤ 12) (hh0 : 1 ≤ hg) (hh1 : hg ≤ 12) :
    Calls Try.prog 65 #[vChart wd hg dv fv ed, vFeature x0 x1 x2 x3 x4] w fun e w' => e = .returned (.bool (featB wd hg (x0, x1, x2, x3, x4))) ∧ Below w.heap.size w w' := by
  have A := Below.step (Below.alloc1 w (.cells #[.int .i64 wd, .int .i64 hg, dv, fv, .int .i64 ed] 27)) (Below.alloc1 _ (.cells #[.int .i64 x0, .int .i64 x1, .int .i64 x2, .int .i64 x3, .string x4] 95))
  have HB := hide A
  have HP := hide fun V => l6Place_any wd hg ed x2 x3 dv fv V (by omega) (by omega) (by omega) (by omega)
  clear A
  obtain ⟨r, er⟩ : ∃ r, r = featB wd hg (x0, x1, x2, x3, x4) := ⟨_, rfl⟩
  rw [← er]
  have ER := hide er
  clear er
  unfold featB at ER
  obtain ⟨m, em⟩ : ∃ m, x4.size = m := ⟨_, rfl⟩
  rw [em] at ER
  have O := ownV_alloc (w.alloc (.cells #[.int .i64 wd, .int .i64 hg, dv, fv, .int .i64 ed] 27)) #[.int .i64 x0, .int .i64 x1, .int .i64 x2, .int .i64 x3, .string x4] 95
  simp only [World.size_alloc] at O
  have HO := hide O
  clear O
  unfold vChart at HP ⊢
  unfold vFeature
  cases h1 : inB x0 1 1000000
  · have e1 : r = false := by rw [unhide ER, h1]; rfl
    subst e1
    go_enter Try.func65, Try.ntmps65
    go_wp2_with (go_at_call 63; refine (l1In_any _ _ _ _).mono ?_; rintro e w' ⟨rfl, h9⟩; have h8 := h9.symm; subst h8; clear h9)
    go_ret
    exact ⟨rfl, unhide HB⟩
  cases h2 : inB x1 1 9
  · have e1 : r = false := by rw [unhide ER, h1, h2]; rfl
    subst e1
    go_enter Try.func65, Try.ntmps65
    go_wp2_with (go_at_call 63; refine (l1In_any _ _ _ _).mono ?_; rintro e w' ⟨rfl, h9⟩; have h8 := h9.symm; subst h8; clear h9)
    go_ret
    exact ⟨rfl, unhide HB⟩
  cases h3 : placeB wd hg x2 x3
  · have e1 : r = false := by rw [unhide ER, h1, h2, h3]; rfl
    subst e1
    rw [h3] at HP
    go_enter Try.func65, Try.ntmps65
    go_wp2_with (first | (go_at_call 63; refine (l1In_any _ _ _ _).mono ?_; rintro e w' ⟨rfl, h9⟩; have h8 := h9.symm; subst h8; clear h9) | (go_at_call 78; refine (unhide HP _).mono ?_; rintro e w1 ⟨rfl, hb⟩; have HB1 := hide (Below.step (unhide HB) hb); clear hb))
    go_ret
    exact ⟨rfl, unhide HB1⟩
  rw [h3] at HP
  by_cases h4 : m ≤ 40
  · have e1 : r = true := by rw [unhide ER, h1, h2, h3, decide_eq_true h4]; rfl
    subst e1
    have h4i : (m : Int) ≤ 40 := by omega
    go_enter Try.func65, Try.ntmps65
    go_wp2_with (first | (go_at_call 63; refine (l1In_any _ _ _ _).mono ?_; rintro e w' ⟨rfl, h9⟩; have h8 := h9.symm; subst h8; clear h9) | (go_at_call 78; refine (unhide HP _).mono ?_; rintro e w1 ⟨rfl, hb⟩; have c4 := OwnV.cell (OwnV.step (unhide HO) hb) (i := 4) rfl; have HB1 := hide (Below.step (unhide HB) hb); clear hb))
    go_ret
    exact ⟨rfl, unhide HB1⟩
  · have e1 : r = false := by rw [unhide ER, h1, h2, h3, decide_eq_false h4]; rfl
    subst e1
    have h4i : ¬ (m : Int) ≤ 40 := by omega
    go_enter Try.func65, Try.ntmps65
    go_wp2_with (first | (go_at_call 63; refine (l1In_any _ _ _ _).mono ?_; rintro e w' ⟨rfl, h9⟩; have h8 := h9.symm; subst h8; clear h9) | (go_at_call 78; refine (unhide HP _).mono ?_; rintro e w1 ⟨rfl, hb⟩; have c4 := OwnV.cell (OwnV.step (unhide HO) hb) (i := 4) rfl; have HB1 := hide (Below.step (unhide HB) hb); clear hb))
    go_ret
    exact ⟨ret_bool (by simp; omega), unhide HB1⟩

end Go.Proofs.Ytoonbidopdflkaa
