/- The program's alarmOk, longer, alarmOf. -/
import Derived.Test.YtblkbonedgofiaaEnF
import Derived.Test.YtblkbonedgofiaaKept
namespace Go.Proofs.Ytblkbonedgofiaa
open Go.RowKit

theorem longer_any (r : Int) (b : Bool) (w : World) (h0 : 0 ≤ r) (h1 : r ≤ 1000) : Calls Try.prog 57 #[.int .i64 r, .bool b] w fun e w' => e = .returned (.int .i64 (if b then r + 1 else 0)) ∧ w' = w := by
  cases b with
  | false =>
    go_enter Try.func57, Try.ntmps57
    go_wp2
    go_ret
    exact ⟨rfl, rfl⟩
  | true =>
    go_enter Try.func57, Try.ntmps57
    go_wp2
    go_ret
    exact ⟨rfl, rfl⟩

set_option maxRecDepth 10000 in
set_option maxHeartbeats 4000000 in
theorem alarmOk_any (hi lo ho : Int) (w : World) : Calls Try.prog 45 #[v3 (hi, lo, ho)] w fun e w' => e = .returned (.bool (ruleB hi lo ho)) ∧ Below w.heap.size w w' := by
  have HW := hide (Below.alloc1 w (.cells #[.int .i64 hi, .int .i64 lo, .int .i64 ho] 34))
  have Q := hide fun V => within_any ho 1 100 V
  have HE : Hid (ruleB hi lo ho = (decide (-1000000 ≤ lo) && (decide (lo ≤ hi) && (decide (hi ≤ 1000000) && inB ho 1 100)))) := by
    show _ = _
    rw [Bool.eq_iff_iff]
    simp only [ruleB, inB, Bool.and_eq_true, decide_eq_true_eq]
    omega
  unfold v3
  by_cases h1 : -1000000 ≤ lo
  case neg =>
    go_enter Try.func45, Try.ntmps45
    go_wp2
    go_ret
    exact ⟨ret_bool (by rw [unhide HE, decide_eq_false (by omega)]; rfl), unhide HW⟩
  case pos =>
  by_cases h2 : lo ≤ hi
  case neg =>
    go_enter Try.func45, Try.ntmps45
    go_wp2
    go_ret
    exact ⟨ret_bool (by rw [unhide HE, decide_eq_true h1, decide_eq_false (by omega)]; rfl), unhide HW⟩
  case pos =>
  by_cases h3 : hi ≤ 1000000
  case neg =>
    go_enter Try.func45, Try.ntmps45
    go_wp2
    go_ret
    exact ⟨ret_bool (by rw [unhide HE, decide_eq_true h1, decide_eq_true h2, decide_eq_false (by omega)]; rfl), unhide HW⟩
  case pos =>
    go_enter Try.func45, Try.ntmps45
    go_wp2_with fail
    refine (unhide Q _).mono ?_
    rintro e w' ⟨rfl, h9⟩
    have h8 := h9.symm
    subst h8
    clear h9
    go_wp2
    go_ret
    exact ⟨ret_bool (by rw [unhide HE, decide_eq_true h1, decide_eq_true h2, decide_eq_true h3]; rfl), unhide HW⟩

/-- The boxes that an alarm keeps. -/
structure AlBx (w : World) (gr gh gl go : Nat) (hi lo ho : Int) (s : Bool × Int × Int) : Prop where
  o1 : OwnV w gr [.int .i64 hi, .int .i64 lo, .int .i64 ho]
  o2 : OwnV w gh [.int .i64 s.2.1]
  o3 : OwnV w gl [.int .i64 s.2.2]
  o4 : OwnV w go [.bool s.1]
theorem AlBx.step {w w' : World} {gr gh gl go : Nat} {hi lo ho : Int} {s : Bool × Int × Int} (h : AlBx w gr gh gl go hi lo ho s) (hb : Below w.heap.size w w') : AlBx w' gr gh gl go hi lo ho s := ⟨h.o1.step hb, h.o2.step hb, h.o3.step hb, h.o4.step hb⟩
theorem AlBx.far {w : World} {gr gh gl go g : Nat} {hi lo ho : Int} {s : Bool × Int × Int} (h : AlBx w gr gh gl go hi lo ho s) (h1 : gr ≠ g) (h2 : gh ≠ g) (h3 : gl ≠ g) (h4 : go ≠ g) (i : Nat) (v : Value) : AlBx (w.setCell ⟨g, i, none⟩ v) gr gh gl go hi lo ho s :=
  ⟨h.o1.other (a := ⟨g, i, none⟩) h1 v, h.o2.other (a := ⟨g, i, none⟩) h2 v, h.o3.other (a := ⟨g, i, none⟩) h3 v, h.o4.other (a := ⟨g, i, none⟩) h4 v⟩
theorem AlBx.put {w : World} {gr gh gl go : Nat} {hi lo ho : Int} {s : Bool × Int × Int} (h : AlBx w gr gh gl go hi lo ho s) (n1 : gr ≠ gh) (n2 : gr ≠ gl) (n3 : gr ≠ go) (n4 : gh ≠ gl) (n5 : gh ≠ go) (n6 : gl ≠ go) (s' : Bool × Int × Int) :
    AlBx (((w.setCell ⟨gh, 0, none⟩ (.int .i64 s'.2.1)).setCell ⟨gl, 0, none⟩ (.int .i64 s'.2.2)).setCell ⟨go, 0, none⟩ (.bool s'.1)) gr gh gl go hi lo ho s' :=
  ⟨((h.o1.other (a := ⟨gh, 0, none⟩) n1 _).other (a := ⟨gl, 0, none⟩) n2 _).other (a := ⟨go, 0, none⟩) n3 _,
   ((h.o2.set 0 (.int .i64 s'.2.1) (by simp)).other (a := ⟨gl, 0, none⟩) n4 _).other (a := ⟨go, 0, none⟩) n5 _,
   ((h.o3.other (a := ⟨gh, 0, none⟩) (fun e => n4 e.symm) _).set 0 (.int .i64 s'.2.2) (by simp)).other (a := ⟨go, 0, none⟩) n6 _,
   ((h.o4.other (a := ⟨gh, 0, none⟩) (fun e => n5 e.symm) _).other (a := ⟨gl, 0, none⟩) (fun e => n6 e.symm) _).set 0 (.bool s'.1) (by simp)⟩

set_option maxRecDepth 10000 in
set_option maxHeartbeats 8000000 in
theorem alarmFn_any (hi lo ho x : Int) (gr gh gl go : Nat) (on : Bool) (h l : Int) (w : World) (hA : AlBx w gr gh gl go hi lo ho (on, h, l)) (h0 : 0 ≤ h) (h1 : h ≤ 1000) (l0 : 0 ≤ l) (l1 : l ≤ 1000)
    (n1 : gr ≠ gh) (n2 : gr ≠ gl) (n3 : gr ≠ go) (n4 : gh ≠ gl) (n5 : gh ≠ go) (n6 : gl ≠ go) (B : Nat) (b2 : B ≤ gh) (b3 : B ≤ gl) (b4 : B ≤ go) (W : World) (hB : Below B W w) :
    Calls Try.prog 56 #[.int .i64 x, .pointer (some ⟨gh, 0, none⟩), .pointer (some ⟨gr, 0, none⟩), .pointer (some ⟨gl, 0, none⟩), .pointer (some ⟨go, 0, none⟩)] w fun e w' => e = .returned (.bool (alNext hi lo ho x (on, h, l)).1) ∧ AlBx w' gr gh gl go hi lo ho (alNext hi lo ho x (on, h, l)) ∧ Below B W w' ∧ Kept (fun b => b = gh ∨ b = gl ∨ b = go) w w' := by
  have HPUT := hide (hA.put n1 n2 n3 n4 n5 n6 (alNext hi lo ho x (on, h, l)))
  obtain ⟨h2, eh2⟩ : ∃ z, z = if hi ≤ x then h + 1 else 0 := ⟨_, rfl⟩
  obtain ⟨l2, el2⟩ : ∃ z, z = if x ≤ lo then l + 1 else 0 := ⟨_, rfl⟩
  have L1 := hide fun V => longer_any h (decide (hi ≤ x)) V h0 h1
  have L2 := hide fun V => longer_any l (decide (x ≤ lo)) V l0 l1
  rw [show (if decide (hi ≤ x) = true then h + 1 else 0) = h2 by rw [eh2]; simp only [decide_eq_true_eq]] at L1
  rw [show (if decide (x ≤ lo) = true then l + 1 else 0) = l2 by rw [el2]; simp only [decide_eq_true_eq]] at L2
  have EN : Hid (alNext hi lo ho x (on, h, l) = (if on then decide (l2 < ho) else decide (ho ≤ h2), h2, l2)) := by show _ = _; rw [eh2, el2]; rfl
  rw [unhide EN] at HPUT ⊢
  dsimp only at HPUT ⊢
  have HKP := hide (((((Kept.refl (fun b => b = gh ∨ b = gl ∨ b = go) w).setCell (p := ⟨gh, 0, none⟩) (Or.inl rfl) (.int .i64 h2)).setCell (p := ⟨gl, 0, none⟩) (Or.inr (Or.inl rfl)) (.int .i64 l2)).setCell (p := ⟨go, 0, none⟩) (Or.inr (Or.inr rfl)) (.bool (if on then decide (l2 < ho) else decide (ho ≤ h2)))))
  have HBB := hide (((hB.setCell (p := ⟨gh, 0, none⟩) b2 (.int .i64 h2)).setCell (p := ⟨gl, 0, none⟩) b3 (.int .i64 l2)).setCell (p := ⟨go, 0, none⟩) b4 (.bool (if on then decide (l2 < ho) else decide (ho ≤ h2))))
  have c0 := hA.o1.cell (i := 0) rfl
  have c1 := hA.o1.cell (i := 1) rfl
  have c2 := hA.o1.cell (i := 2) rfl
  have ch := hA.o2.cell (i := 0) rfl
  have cl := hA.o3.cell (i := 0) rfl
  have co := hA.o4.cell (i := 0) rfl
  have fh := hA.o2.frozen 0
  have fl := hA.o3.frozen 0
  have fo := hA.o4.frozen 0
  dsimp only at ch cl co
  have m1 : ¬ gr = gh := n1
  have m2 : ¬ gr = gl := n2
  have m3 : ¬ gr = go := n3
  have m4 : ¬ gh = gl := n4
  have m5 : ¬ gh = go := n5
  have m6 : ¬ gl = go := n6
  have m7 : ¬ gh = gr := fun e => n1 e.symm
  have m8 : ¬ gl = gr := fun e => n2 e.symm
  have m9 : ¬ go = gr := fun e => n3 e.symm
  have mA : ¬ gl = gh := fun e => n4 e.symm
  have mB : ¬ go = gh := fun e => n5 e.symm
  have mC : ¬ go = gl := fun e => n6 e.symm
  clear hA hB eh2 el2 EN n1 n2 n3 n4 n5 n6
  cases on with
  | false =>
    go_enter Try.func56, Try.ntmps56
    go_wp2_with fail
    refine (unhide L1 _).mono ?_
    rintro e w' ⟨rfl, h9⟩
    have h8 := h9.symm
    subst h8
    clear h9
    go_wp2_with fail
    refine (unhide L2 _).mono ?_
    rintro e w' ⟨rfl, h9⟩
    have h8 := h9.symm
    subst h8
    clear h9
    go_wp2
    go_ret
    exact ⟨rfl, unhide HPUT, unhide HBB, unhide HKP⟩
  | true =>
    go_enter Try.func56, Try.ntmps56
    go_wp2_with fail
    refine (unhide L1 _).mono ?_
    rintro e w' ⟨rfl, h9⟩
    have h8 := h9.symm
    subst h8
    clear h9
    go_wp2_with fail
    refine (unhide L2 _).mono ?_
    rintro e w' ⟨rfl, h9⟩
    have h8 := h9.symm
    subst h8
    clear h9
    go_wp2
    go_ret
    exact ⟨rfl, unhide HPUT, unhide HBB, unhide HKP⟩

abbrev alF (s : Nat) : Value := .func (.func 56) #[] #[.pointer (some ⟨s + 1 + 1, 0, none⟩), .pointer (some ⟨s, 0, none⟩), .pointer (some ⟨s + 1 + 1 + 1, 0, none⟩), .pointer (some ⟨s + 1, 0, none⟩)]
set_option maxHeartbeats 4000000 in
theorem alarmOf_any (hi lo ho : Int) (w : World) : Calls Try.prog 46 #[v3 (hi, lo, ho)] w fun e w' => e = .returned (alF w.heap.size) ∧ AlBx w' w.heap.size (w.heap.size + 1 + 1) (w.heap.size + 1 + 1 + 1) (w.heap.size + 1) hi lo ho (false, 0, 0) ∧ Below w.heap.size w w' := by
  unfold v3
  go_enter Try.func46, Try.ntmps46
  go_wp2
  go_ret
  refine ⟨rfl, ⟨?_, ?_, ?_, ?_⟩, Below.step (Below.step (Below.step (Below.alloc1 _ _) (Below.alloc1 _ _)) (Below.alloc1 _ _)) (Below.alloc1 _ _)⟩
  · exact (((ownV_alloc _ _ _).alloc _).alloc _).alloc _
  · have := ((ownV_alloc ((w.alloc (.cells #[.int .i64 hi, .int .i64 lo, .int .i64 ho] 34)).alloc (.cells #[.bool false] 4)) #[.int .i64 0] 3).alloc (.cells #[.int .i64 0] 3))
    simp only [World.size_alloc] at this
    exact this
  · have := (ownV_alloc (((w.alloc (.cells #[.int .i64 hi, .int .i64 lo, .int .i64 ho] 34)).alloc (.cells #[.bool false] 4)).alloc (.cells #[.int .i64 0] 3)) #[.int .i64 0] 3)
    simp only [World.size_alloc] at this
    exact this
  · have := (((ownV_alloc (w.alloc (.cells #[.int .i64 hi, .int .i64 lo, .int .i64 ho] 34)) #[.bool false] 4).alloc (.cells #[.int .i64 0] 3)).alloc (.cells #[.int .i64 0] 3))
    simp only [World.size_alloc] at this
    exact this

end Go.Proofs.Ytblkbonedgofiaa
