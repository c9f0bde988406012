/- Boxes: both BoxOk, both Apart. Written by wip/mkbxd.py. -/
import Derived.Test.YtnfdokcpjcnknaaBxC
namespace Go.Proofs.Ytnfdokcpjcnknaa
open Go.RowKit

theorem isClass_any (x : Int) (w : World) : Calls Try.prog 67 #[.int .i64 x] w fun e w' => e = .returned (.bool (inB x 0 9)) ∧ w' = w := by
  have HW := hide fun V => within_any x 0 9 V
  generalize inB x 0 9 = r at *
  go_enter Try.func67, Try.ntmps67
  go_wp2_with fail
  refine (unhide HW _).mono ?_
  rintro e w1 ⟨rfl, rfl⟩
  go_wp2
  go_ret
  exact ⟨rfl, rfl⟩


set_option maxHeartbeats 1600000 in
theorem implBoxOk_any (n : ByteArray) (wt cl : Int) (co : Bool) (fr to : Int) (w : World) :
    Calls Try.prog 56 #[vBox n wt cl co fr to] w fun e w' => e = .returned (.bool (boxB n wt cl fr to)) ∧ Below w.heap.size w w' := by
  have EB : Hid (boxB n wt cl fr to = (bnB n && inB wt 1 40000 && inB cl 0 9 && decide (0 ≤ fr ∧ fr < to ∧ to ≤ 19))) := rfl
  unfold vBox
  have HB := hide (ownV_alloc w #[.string n, .int .i64 wt, .int .i64 cl, .bool co, .int .i64 fr, .int .i64 to] 36)
  have HW := hide (Below.alloc1 w (.cells #[.string n, .int .i64 wt, .int .i64 cl, .bool co, .int .i64 fr, .int .i64 to] 36))
  have c0 := (unhide HB).cell (i := 0) rfl
  have c1 := (unhide HB).cell (i := 1) rfl
  have c2 := (unhide HB).cell (i := 2) rfl
  have c3 := (unhide HB).cell (i := 3) rfl
  have c4 := (unhide HB).cell (i := 4) rfl
  have c5 := (unhide HB).cell (i := 5) rfl
  go_enter Try.func56, Try.ntmps56
  have Q0 := hide fun V => implBoxName_any n V
  cases h0 : bnB n with
  | false =>
    rw [h0] at Q0 EB
    go_wp2_with fail
    refine (unhide Q0 _).mono ?_
    rintro e w1 ⟨rfl, hb⟩
    replace HB := hide ((unhide HB).step hb)
    replace HW := hide (Below.step (unhide HW) hb)
    clear hb c0 c1 c2 c3 c4 c5
    have c0 := (unhide HB).cell (i := 0) rfl
    have c1 := (unhide HB).cell (i := 1) rfl
    have c2 := (unhide HB).cell (i := 2) rfl
    have c3 := (unhide HB).cell (i := 3) rfl
    have c4 := (unhide HB).cell (i := 4) rfl
    have c5 := (unhide HB).cell (i := 5) rfl
    clear Q0
    go_wp2
    go_ret
    exact ⟨by rw [unhide EB]; rfl, unhide HW⟩
  | true =>
    rw [h0] at Q0 EB
    go_wp2_with fail
    refine (unhide Q0 _).mono ?_
    rintro e w1 ⟨rfl, hb⟩
    replace HB := hide ((unhide HB).step hb)
    replace HW := hide (Below.step (unhide HW) hb)
    clear hb c0 c1 c2 c3 c4 c5
    have c0 := (unhide HB).cell (i := 0) rfl
    have c1 := (unhide HB).cell (i := 1) rfl
    have c2 := (unhide HB).cell (i := 2) rfl
    have c3 := (unhide HB).cell (i := 3) rfl
    have c4 := (unhide HB).cell (i := 4) rfl
    have c5 := (unhide HB).cell (i := 5) rfl
    clear Q0
    have Q1 := hide fun V => within_any wt 1 40000 V
    cases h1 : inB wt 1 40000 with
    | false =>
      rw [h1] at Q1 EB
      go_wp2_with fail
      refine (unhide Q1 _).mono ?_
      rintro e w2 ⟨rfl, rfl⟩
      clear Q1
      go_wp2
      go_ret
      exact ⟨by rw [unhide EB]; rfl, unhide HW⟩
    | true =>
      rw [h1] at Q1 EB
      go_wp2_with fail
      refine (unhide Q1 _).mono ?_
      rintro e w2 ⟨rfl, rfl⟩
      clear Q1
      have Q2 := hide fun V => isClass_any cl V
      cases h2 : inB cl 0 9 with
      | false =>
        rw [h2] at Q2 EB
        go_wp2_with fail
        refine (unhide Q2 _).mono ?_
        rintro e w3 ⟨rfl, rfl⟩
        clear Q2
        go_wp2
        go_ret
        exact ⟨by rw [unhide EB]; rfl, unhide HW⟩
      | true =>
        rw [h2] at Q2 EB
        go_wp2_with fail
        refine (unhide Q2 _).mono ?_
        rintro e w3 ⟨rfl, rfl⟩
        clear Q2
        by_cases f0 : 0 ≤ fr
        · have d0 : decide (0 ≤ fr) = true := by simp; omega
          by_cases f1 : fr < to
          · have d1 : decide (fr < to) = true := by simp; omega
            by_cases f2 : to ≤ 19
            · go_wp2
              go_ret
              exact ⟨by rw [unhide EB]; simp [f0, f1, f2], unhide HW⟩
            · go_wp2
              go_ret
              exact ⟨by rw [unhide EB]; simp [f0, f1], unhide HW⟩
          · have d1 : decide (fr < to) = false := by simp; omega
            go_wp2
            go_ret
            exact ⟨by rw [unhide EB]; simp; omega, unhide HW⟩
        · have d0 : decide (0 ≤ fr) = false := by simp; omega
          go_wp2
          go_ret
          exact ⟨by rw [unhide EB]; simp; omega, unhide HW⟩


set_option maxHeartbeats 1600000 in
theorem specBoxOk_any (n : ByteArray) (wt cl : Int) (co : Bool) (fr to : Int) (w : World) :
    Calls Try.prog 47 #[vBox n wt cl co fr to] w fun e w' => e = .returned (.bool (boxB n wt cl fr to)) ∧ Below w.heap.size w w' := by
  have EB : Hid (boxB n wt cl fr to = (bnB n && inB wt 1 40000 && inB cl 0 9 && decide (0 ≤ fr ∧ fr < to ∧ to ≤ 19))) := rfl
  unfold vBox
  have HB := hide (ownV_alloc w #[.string n, .int .i64 wt, .int .i64 cl, .bool co, .int .i64 fr, .int .i64 to] 36)
  have HW := hide (Below.alloc1 w (.cells #[.string n, .int .i64 wt, .int .i64 cl, .bool co, .int .i64 fr, .int .i64 to] 36))
  have c0 := (unhide HB).cell (i := 0) rfl
  have c1 := (unhide HB).cell (i := 1) rfl
  have c2 := (unhide HB).cell (i := 2) rfl
  have c3 := (unhide HB).cell (i := 3) rfl
  have c4 := (unhide HB).cell (i := 4) rfl
  have c5 := (unhide HB).cell (i := 5) rfl
  go_enter Try.func47, Try.ntmps47
  have Q0 := hide fun V => specBoxName_any n V
  cases h0 : bnB n with
  | false =>
    rw [h0] at Q0 EB
    go_wp2_with fail
    refine (unhide Q0 _).mono ?_
    rintro e w1 ⟨rfl, rfl⟩
    clear Q0
    go_wp2
    go_ret
    exact ⟨by rw [unhide EB]; rfl, unhide HW⟩
  | true =>
    rw [h0] at Q0 EB
    go_wp2_with fail
    refine (unhide Q0 _).mono ?_
    rintro e w1 ⟨rfl, rfl⟩
    clear Q0
    have Q1 := hide fun V => l1In_any wt 1 40000 V
    cases h1 : inB wt 1 40000 with
    | false =>
      rw [h1] at Q1 EB
      go_wp2_with fail
      refine (unhide Q1 _).mono ?_
      rintro e w2 ⟨rfl, rfl⟩
      clear Q1
      go_wp2
      go_ret
      exact ⟨by rw [unhide EB]; rfl, unhide HW⟩
    | true =>
      rw [h1] at Q1 EB
      go_wp2_with fail
      refine (unhide Q1 _).mono ?_
      rintro e w2 ⟨rfl, rfl⟩
      clear Q1
      have Q2 := hide fun V => l1In_any cl 0 9 V
      cases h2 : inB cl 0 9 with
      | false =>
        rw [h2] at Q2 EB
        go_wp2_with fail
        refine (unhide Q2 _).mono ?_
        rintro e w3 ⟨rfl, rfl⟩
        clear Q2
        go_wp2
        go_ret
        exact ⟨by rw [unhide EB]; rfl, unhide HW⟩
      | true =>
        rw [h2] at Q2 EB
        go_wp2_with fail
        refine (unhide Q2 _).mono ?_
        rintro e w3 ⟨rfl, rfl⟩
        clear Q2
        have Q3 := hide fun V => l1In_any fr 0 19 V
        cases h3 : inB fr 0 19 with
        | false =>
          rw [h3] at Q3
          go_wp2_with fail
          refine (unhide Q3 _).mono ?_
          rintro e w3 ⟨rfl, rfl⟩
          clear Q3
          go_wp2
          go_ret
          exact ⟨by rw [unhide EB]; simp [inB] at h3 ⊢; omega, unhide HW⟩
        | true =>
          rw [h3] at Q3
          go_wp2_with fail
          refine (unhide Q3 _).mono ?_
          rintro e w3 ⟨rfl, rfl⟩
          clear Q3
          have hfr := inB_true h3
          obtain ⟨f0, f1⟩ := hfr
          have q1 : IntKind.i64.wrap (fr + 1) = fr + 1 := by rw [IntKind.wrap_i64]; omega
          have Q4 := hide fun V => l1In_any to (fr + 1) 19 V
          obtain ⟨r, er⟩ : ∃ r, r = inB to (fr + 1) 19 := ⟨_, rfl⟩
          rw [← er] at Q4
          have ER := hide er
          clear er h3
          go_wp2_with fail
          refine (unhide Q4 _).mono ?_
          rintro e w4 ⟨rfl, rfl⟩
          clear Q4
          go_wp2
          go_ret
          refine ⟨?_, unhide HW⟩
          rw [unhide EB]
          have e2 : decide (0 ≤ fr ∧ fr < to ∧ to ≤ 19) = r := by
            rw [unhide ER, inB, Bool.eq_iff_iff]
            simp
            omega
          rw [e2]
          rfl

end Go.Proofs.Ytnfdokcpjcnknaa
