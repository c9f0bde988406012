/- Contracts of the specification's Over and Reply. -/
import Derived.Test.YteohkabenbaaaaaFlF
import Derived.Deep.QuietTactic
import Derived.BigQuiet
namespace Go.Proofs.Yteohkabenbaaaaa
open Go.RowKit

attribute [local go_sem] run_store_float run_store_complex unary_neg_float

/-- Three boxes of two. -/
structure Box6 (w W : World) (a b c d e f : Value) : Prop where
  o1 : OwnV W w.heap.size [a, b]
  o2 : OwnV W (w.heap.size + 1) [c, d]
  o3 : OwnV W (w.heap.size + 1 + 1) [e, f]
  below : Below w.heap.size w W

theorem box6 (w : World) (a b c d e f : Value) (t1 t2 t3 : TypeId) (n : Nat) : Box6 w ((((w.alloc (.cells #[a, b] t1)).alloc (.cells #[c, d] t2)).alloc (.cells #[e, f] t3)).drewN n) a b c d e f := by
  refine ⟨OwnV.drewN (((ownV_alloc w #[a, b] t1).alloc _).alloc _) n, OwnV.drewN (OwnV.alloc ?_ _) n, OwnV.drewN ?_ n, below_drewN (below3 _ _ _ _) n⟩
  · have h := ownV_alloc (w.alloc (.cells #[a, b] t1)) #[c, d] t2
    simp only [World.size_alloc] at h
    exact h
  · have h := ownV_alloc ((w.alloc (.cells #[a, b] t1)).alloc (.cells #[c, d] t2)) #[e, f] t3
    simp only [World.size_alloc] at h
    exact h

def eq0 (x : Nat) : Bool := FloatKind.f64.format.order x 0 == some .eq
def overOk (a b c d : Nat) : Bool := finB a && finB b && finB c && finB d && !(eq0 c && eq0 d)
def geB (c d : Nat) : Bool := FloatKind.f64.format.order (sizeF c) (sizeF d) == some .gt || FloatKind.f64.format.order (sizeF c) (sizeF d) == some .eq
def ovRe (a b c d : Nat) : Nat :=
  if geB c d = true then fop .quo .f64 (fop .add .f64 a (fop .mul .f64 b (fop .quo .f64 d c))) (fop .add .f64 c (fop .mul .f64 (fop .quo .f64 d c) d))
  else fop .quo .f64 (fop .add .f64 (fop .mul .f64 a (fop .quo .f64 c d)) b) (fop .add .f64 d (fop .mul .f64 (fop .quo .f64 c d) c))
def ovIm (a b c d : Nat) : Nat :=
  if geB c d = true then fop .quo .f64 (fop .sub .f64 b (fop .mul .f64 a (fop .quo .f64 d c))) (fop .add .f64 c (fop .mul .f64 (fop .quo .f64 d c) d))
  else fop .quo .f64 (fop .sub .f64 (fop .mul .f64 b (fop .quo .f64 c d)) a) (fop .add .f64 d (fop .mul .f64 (fop .quo .f64 c d) c))
def overRe (a b c d : Nat) : Nat := if overOk a b c d = true then ovRe a b c d else 0
def overIm (a b c d : Nat) : Nat := if overOk a b c d = true then ovIm a b c d else 0

set_option maxRecDepth 10000 in
set_option maxHeartbeats 4000000 in
theorem specOver_any (a b c d : Nat) (w : World) :
    Calls Try.prog 47 #[vW a b, vW c d] w fun e w' => ∃ r s, e = .returned (.tuple #[vW r s, .bool (overOk a b c d)]) ∧ fsame .f64 r (overRe a b c d) ∧ fsame .f64 s (overIm a b c d) ∧ Below w.heap.size w w' := by
  unfold vW
  cases hok : overOk a b c d with
  | false =>
    have HF : Hid (overRe a b c d = 0 ∧ overIm a b c d = 0) := by constructor <;> simp [overRe, overIm, hok]
    have FIN : Hid (∀ n, ∃ r s, Ending.returned (.tuple #[vW 0 0, .bool false]) = .returned (.tuple #[vW r s, .bool false]) ∧ fsame .f64 r (overRe a b c d) ∧ fsame .f64 s (overIm a b c d) ∧ Below w.heap.size w ((((((w.alloc (.cells #[.float .f64 a, .float .f64 b] 32)).alloc (.cells #[.float .f64 c, .float .f64 d] 32)).alloc (.cells #[.float .f64 0, .float .f64 0] 32)).drewN n).setCell ⟨w.heap.size + 1 + 1, 0, none⟩ (.float .f64 0)).setCell ⟨w.heap.size + 1 + 1, 1, none⟩ (.float .f64 0))) := by
      intro n
      rw [(unhide HF).1, (unhide HF).2]
      exact ⟨0, 0, rfl, fsame.refl _ _, fsame.refl _ _, below_put2 (below3 _ _ _ _) (by omega) _ _ _⟩
    cases h1 : finB a
    · clear hok
      go_enter Try.func47, Try.ntmps47
      go_wp2_with (go_at_call 75; refine (l4Finite_any _ _).mono ?_; rintro e w' ⟨rfl, n, rfl⟩)
      refine bodyPost_ret (v := .tuple #[vW 0 0, .bool false]) (by simp [results, Try.results47, go_sem, vW]) rfl (unhide FIN _)
    cases h2 : finB b
    · clear hok
      go_enter Try.func47, Try.ntmps47
      go_wp2_with (go_at_call 75; refine (l4Finite_any _ _).mono ?_; rintro e w' ⟨rfl, n, rfl⟩)
      refine bodyPost_ret (v := .tuple #[vW 0 0, .bool false]) (by simp [results, Try.results47, go_sem, vW]) rfl (unhide FIN _)
    cases h3 : finB c
    · clear hok
      go_enter Try.func47, Try.ntmps47
      go_wp2_with (go_at_call 75; refine (l4Finite_any _ _).mono ?_; rintro e w' ⟨rfl, n, rfl⟩)
      refine bodyPost_ret (v := .tuple #[vW 0 0, .bool false]) (by simp [results, Try.results47, go_sem, vW]) rfl (unhide FIN _)
    cases h4 : finB d
    · clear hok
      go_enter Try.func47, Try.ntmps47
      go_wp2_with (go_at_call 75; refine (l4Finite_any _ _).mono ?_; rintro e w' ⟨rfl, n, rfl⟩)
      refine bodyPost_ret (v := .tuple #[vW 0 0, .bool false]) (by simp [results, Try.results47, go_sem, vW]) rfl (unhide FIN _)
    have h56 : (FloatKind.f64.format.order c 0 == some .eq) = true ∧ (FloatKind.f64.format.order d 0 == some .eq) = true := by
      rw [overOk, h1, h2, h3, h4] at hok
      simpa [eq0] using hok
    obtain ⟨h5, h6⟩ := h56
    clear hok
    go_enter Try.func47, Try.ntmps47
    go_wp2_with (go_at_call 75; refine (l4Finite_any _ _).mono ?_; rintro e w' ⟨rfl, n, rfl⟩)
    refine bodyPost_ret (v := .tuple #[vW 0 0, .bool false]) (by simp [results, Try.results47, go_sem, vW]) rfl (unhide FIN _)
  | true =>
    have hh : finB a = true ∧ finB b = true ∧ finB c = true ∧ finB d = true ∧ ((FloatKind.f64.format.order c 0 == some .eq) = false ∨ ((FloatKind.f64.format.order c 0 == some .eq) = true ∧ (FloatKind.f64.format.order d 0 == some .eq) = false)) := by
      simp only [overOk, Bool.and_eq_true, Bool.not_eq_true', Bool.and_eq_false_iff, eq0] at hok
      obtain ⟨⟨⟨⟨q1, q2⟩, q3⟩, q4⟩, q5⟩ := hok
      refine ⟨q1, q2, q3, q4, ?_⟩
      cases hc : (FloatKind.f64.format.order c 0 == some .eq)
      · exact Or.inl rfl
      · rw [hc] at q5
        exact Or.inr ⟨rfl, by simpa using q5⟩
    obtain ⟨h1, h2, h3, h4, h5⟩ := hh
    have HRE : Hid (overRe a b c d = ovRe a b c d) := by show _ = _; rw [overRe, if_pos hok]
    have HIM : Hid (overIm a b c d = ovIm a b c d) := by show _ = _; rw [overIm, if_pos hok]
    clear hok
    cases hg : geB c d with
    | true =>
      have HRE' : Hid (overRe a b c d = fop .quo .f64 (fop .add .f64 a (fop .mul .f64 b (fop .quo .f64 d c))) (fop .add .f64 c (fop .mul .f64 (fop .quo .f64 d c) d))) := by show _ = _; rw [unhide HRE, ovRe, if_pos hg]
      have HIM' : Hid (overIm a b c d = fop .quo .f64 (fop .sub .f64 b (fop .mul .f64 a (fop .quo .f64 d c))) (fop .add .f64 c (fop .mul .f64 (fop .quo .f64 d c) d))) := by show _ = _; rw [unhide HIM, ovIm, if_pos hg]
      unfold geB at hg
      clear HRE HIM
      rcases h5 with h5 | ⟨h5, h6⟩
      all_goals
        go_enter Try.func47, Try.ntmps47
        go_wp2_with (go_at_call 75; refine (l4Finite_any _ _).mono ?_; rintro e w' ⟨rfl, n, rfl⟩)
        have hB := box6 w (.float .f64 a) (.float .f64 b) (.float .f64 c) (.float .f64 d) (.float .f64 0) (.float .f64 0) 32 32 32
        generalize hW : World.drewN _ _ = W
        have hB' : Box6 w W (.float .f64 a) (.float .f64 b) (.float .f64 c) (.float .f64 d) (.float .f64 0) (.float .f64 0) := by rw [← hW]; exact hB _
        clear hW hB
        have a0 := hB'.o1.cell (i := 0) rfl
        have a1 := hB'.o1.cell (i := 1) rfl
        have b0 := hB'.o2.cell (i := 0) rfl
        have b1 := hB'.o2.cell (i := 1) rfl
        have e0 := hB'.o3.cell (i := 0) rfl
        have e1 := hB'.o3.cell (i := 1) rfl
        have g0 := hB'.o3.frozen
        have HB := hide hB'.below
        have HO3 := hide hB'.o3
        clear hB'
        go_quiet ((go_at_call 76; exact Calls.quiet_of_same (l4Size_any _ _)))
        go_wp2_with (refine wpList_float rfl _ _ _ _ _ rfl rfl .f64 _ _ rfl rfl ?_; intro r n hr)
        rename_i r1 n1 h1 r2 n2 h2 r3 n3 h3 r4 n4 h4 r5 n5 h5' r6 n6 h6' r7 n7 h7 r8 n8 h8
        have R := fun x => fsame.refl .f64 x
        have g3 := fop_to h3 (R c) (fop_to h2 h1 (R d))
        have g6 := fop_to h6' (R a) (fop_to h4 (R b) h1)
        have g7 := fop_to h7 (R b) (fop_to h5' (R a) h1)
        have hc := (OwnV.set (OwnV.drewN (unhide HO3) (nq + n1 + n2 + n3 + n4 + n5 + n6 + n7 + n8 + n)) 0 (.float .f64 r8) (by simp)).set 1 (.float .f64 r) (by simp)
        have q0 := hc.cell (i := 0) rfl
        have q1 := hc.cell (i := 1) rfl
        refine bodyPost_ret (v := .tuple #[vW r8 r, .bool true]) (by simp [results, Try.results47, go_sem, vW, q0, q1]) rfl ⟨r8, r, rfl, by rw [unhide HRE']; exact fop_to h8 g6 g3, by rw [unhide HIM']; exact fop_to hr g7 g3, below_put2 (unhide HB) (by omega) _ _ _⟩
    | false =>
      have HRE' : Hid (overRe a b c d = fop .quo .f64 (fop .add .f64 (fop .mul .f64 a (fop .quo .f64 c d)) b) (fop .add .f64 d (fop .mul .f64 (fop .quo .f64 c d) c))) := by show _ = _; rw [unhide HRE, ovRe, if_neg (by rw [hg]; simp)]
      have HIM' : Hid (overIm a b c d = fop .quo .f64 (fop .sub .f64 (fop .mul .f64 b (fop .quo .f64 c d)) a) (fop .add .f64 d (fop .mul .f64 (fop .quo .f64 c d) c))) := by show _ = _; rw [unhide HIM, ovIm, if_neg (by rw [hg]; simp)]
      unfold geB at hg
      clear HRE HIM
      rcases h5 with h5 | ⟨h5, h6⟩
      all_goals
        go_enter Try.func47, Try.ntmps47
        go_wp2_with (go_at_call 75; refine (l4Finite_any _ _).mono ?_; rintro e w' ⟨rfl, n, rfl⟩)
        have hB := box6 w (.float .f64 a) (.float .f64 b) (.float .f64 c) (.float .f64 d) (.float .f64 0) (.float .f64 0) 32 32 32
        generalize hW : World.drewN _ _ = W
        have hB' : Box6 w W (.float .f64 a) (.float .f64 b) (.float .f64 c) (.float .f64 d) (.float .f64 0) (.float .f64 0) := by rw [← hW]; exact hB _
        clear hW hB
        have a0 := hB'.o1.cell (i := 0) rfl
        have a1 := hB'.o1.cell (i := 1) rfl
        have b0 := hB'.o2.cell (i := 0) rfl
        have b1 := hB'.o2.cell (i := 1) rfl
        have e0 := hB'.o3.cell (i := 0) rfl
        have e1 := hB'.o3.cell (i := 1) rfl
        have g0 := hB'.o3.frozen
        have HB := hide hB'.below
        have HO3 := hide hB'.o3
        clear hB'
        go_quiet ((go_at_call 76; exact Calls.quiet_of_same (l4Size_any _ _)))
        go_wp2_with (refine wpList_float rfl _ _ _ _ _ rfl rfl .f64 _ _ rfl rfl ?_; intro r n hr)
        rename_i r1 n1 h1 r2 n2 h2 r3 n3 h3 r4 n4 h4 r5 n5 h5' r6 n6 h6' r7 n7 h7 r8 n8 h8
        have R := fun x => fsame.refl .f64 x
        have g3 := fop_to h3 (R d) (fop_to h2 h1 (R c))
        have g6 := fop_to h6' (fop_to h4 (R a) h1) (R b)
        have g7 := fop_to h7 (fop_to h5' (R b) h1) (R a)
        have hc := (OwnV.set (OwnV.drewN (unhide HO3) (nq + n1 + n2 + n3 + n4 + n5 + n6 + n7 + n8 + n)) 0 (.float .f64 r8) (by simp)).set 1 (.float .f64 r) (by simp)
        have q0 := hc.cell (i := 0) rfl
        have q1 := hc.cell (i := 1) rfl
        refine bodyPost_ret (v := .tuple #[vW r8 r, .bool true]) (by simp [results, Try.results47, go_sem, vW, q0, q1]) rfl ⟨r8, r, rfl, by rw [unhide HRE']; exact fop_to h8 g6 g3, by rw [unhide HIM']; exact fop_to hr g7 g3, below_put2 (unhide HB) (by omega) _ _ _⟩

end Go.Proofs.Yteohkabenbaaaaa
