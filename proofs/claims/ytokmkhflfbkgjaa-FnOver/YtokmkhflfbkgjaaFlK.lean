/- Words for lists of floats and of structs of two floats. No statement about the program stands here. -/
import Derived.Test.YtokmkhflfbkgjaaFlE
import Derived.Test.YtokmkhflfbkgjaaRecs
namespace Go.Proofs.Ytokmkhflfbkgjaa
open Go.RowKit

abbrev F2 := Nat × Nat
def eW (x : F2) : Nat → Value
  | 0 => .float .f64 x.1
  | _ => .float .f64 x.2
def eS (x : F2) : Nat → Value
  | 0 => .float .f32 x.1
  | _ => .float .f32 x.2
abbrev RW := RecsIn 2 eW
abbrev RS := RecsIn 2 eS

theorem recWAt {w : World} {ao : Option Addr} {L : List F2} {k : Nat} (h : ∀ i, i < L.length → ∃ b o, ao = some ⟨b, o, none⟩ ∧ ∀ j, j < 2 → w.cell? ⟨b, o + (i * 2 + j), none⟩ = some (eW (L.getD i default) j)) (hk : k < L.length) :
    ∃ b o x y, ao = some ⟨b, o, none⟩ ∧ w.cell? ⟨b, o + k * 2, none⟩ = some (.float .f64 x) ∧ w.cell? ⟨b, o + k * 2 + 1, none⟩ = some (.float .f64 y) ∧ Hid (L.getD k default = (x, y)) := by
  obtain ⟨b, o, e, hc⟩ := h k hk
  exact ⟨b, o, _, _, e, hc 0 (by omega), hc 1 (by omega), rfl⟩

theorem recSAt {w : World} {ao : Option Addr} {L : List F2} {k : Nat} (h : ∀ i, i < L.length → ∃ b o, ao = some ⟨b, o, none⟩ ∧ ∀ j, j < 2 → w.cell? ⟨b, o + (i * 2 + j), none⟩ = some (eS (L.getD i default) j)) (hk : k < L.length) :
    ∃ b o x y, ao = some ⟨b, o, none⟩ ∧ w.cell? ⟨b, o + k * 2, none⟩ = some (.float .f32 x) ∧ w.cell? ⟨b, o + k * 2 + 1, none⟩ = some (.float .f32 y) ∧ Hid (L.getD k default = (x, y)) := by
  obtain ⟨b, o, e, hc⟩ := h k hk
  exact ⟨b, o, _, _, e, hc 0 (by omega), hc 1 (by omega), rfl⟩

/-- The slice value v holds the floats xs in w. -/
def FlIn (w : World) (v : Value) (xs : List Nat) : Prop :=
  ∃ ao cap, v = .slice ao xs.length cap ∧ xs.length ≤ cap ∧ cap ≤ maxLen ∧ ∀ i, i < xs.length → ∃ b o, ao = some ⟨b, o, none⟩ ∧ w.cell? ⟨b, o + i, none⟩ = some (.float .f64 (xs.getD i 0))

theorem FlIn.below {w w' : World} {v : Value} {xs : List Nat} (h : FlIn w v xs) (hb : Below w.heap.size w w') : FlIn w' v xs := by
  obtain ⟨ao, cap, e, h1, h2, h3⟩ := h
  refine ⟨ao, cap, e, h1, h2, fun i hi => ?_⟩
  obtain ⟨b, o, e1, hc⟩ := h3 i hi
  exact ⟨b, o, e1, (hb.cell (lt_of_cell hc)).trans hc⟩

def fls (xs : List Nat) : List Value := xs.map (Value.float .f64)
theorem fls_length (xs : List Nat) : (fls xs).length = xs.length := by simp [fls]
theorem fls_get (xs : List Nat) {i : Nat} (h : i < xs.length) : (fls xs)[i]? = some (.float .f64 (xs.getD i 0)) := by
  simp [fls, List.getD, List.getElem?_eq_getElem h]
theorem OwnV.flIn {w : World} {g cap : Nat} {xs : List Nat} (h : OwnV w g (fls xs)) (hl : xs.length ≤ cap) (hm : cap ≤ maxLen) : FlIn w (.slice (some ⟨g, 0, none⟩) xs.length cap) xs :=
  ⟨_, cap, rfl, hl, hm, fun i hi => ⟨g, 0, rfl, by rw [Nat.zero_add]; exact h.cell (fls_get xs hi)⟩⟩

end Go.Proofs.Ytokmkhflfbkgjaa
