/- Rows of the call's own between two marks of memory; contracts of markHull and heldHull over them. -/
import Derived.Test.YtjllilmiloippaaWalkR
import Derived.Test.YtjllilmiloippaaOwnCp
namespace Go.Proofs.Ytjllilmiloippaa
open Go.RowKit

/-- A list of rows of the call's own, its blocks from B on and below U; or nothing. -/
def OwnRowsU (B U : Nat) (w : World) (v : Value) (R : List (List Int)) : Prop :=
  (R = [] ∧ v = .slice none 0 0) ∨ ∃ g G C cap, v = .slice (some ⟨g, 0, none⟩) R.length cap ∧ R.length ≤ cap ∧ cap ≤ maxLen ∧ OwnRows B w g G C R ∧ g < U ∧ ∀ r, r < R.length → G r < U

theorem OwnRowsV.upto {B : Nat} {w : World} {v : Value} {R : List (List Int)} (h : OwnRowsV B w v R) : OwnRowsU B w.heap.size w v R := by
  rcases h with h | ⟨g, G, C, cap, rfl, h1, h2, h3⟩
  · exact Or.inl h
  · exact Or.inr ⟨g, G, C, cap, rfl, h1, h2, h3, h3.top.lt, fun r hr => (h3.rows r hr).lt⟩

theorem OwnRows.upto {B : Nat} {w : World} {g : Nat} {G C : Nat → Nat} {R : List (List Int)} (h : OwnRows B w g G C R) (hR : R.length ≤ 1048576) : OwnRowsU B w.heap.size w (.slice (some ⟨g, 0, none⟩) R.length R.length) R :=
  Or.inr ⟨g, G, C, R.length, rfl, Nat.le_refl _, by unfold maxLen; omega, h, h.top.lt, fun r hr => (h.rows r hr).lt⟩

theorem OwnRowsU.inn {B U : Nat} {w : World} {v : Value} {R : List (List Int)} (h : OwnRowsU B U w v R) : RowsIn w v R := by
  rcases h with ⟨rfl, rfl⟩ | ⟨g, G, C, cap, rfl, h1, h2, h3, _⟩
  · exact ⟨none, 0, rfl, Nat.le_refl _, Nat.zero_le _, fun r hr => by simp at hr⟩
  · exact h3.rowsIn h1 h2

theorem OwnRowsU.below {B U : Nat} {w w' : World} {v : Value} {R : List (List Int)} (h : OwnRowsU B U w v R) (hb : Below w.heap.size w w') : OwnRowsU B U w' v R := by
  rcases h with h | ⟨g, G, C, cap, rfl, h1, h2, h3, r⟩
  · exact Or.inl h
  · exact Or.inr ⟨g, G, C, cap, rfl, h1, h2, h3.below hb, r⟩

theorem OwnRowsU.kept {T : Nat → Prop} {B U : Nat} {w w' : World} {v : Value} {R : List (List Int)} (h : OwnRowsU B U w v R) (hk : Kept T w w') (hT : ∀ b, B ≤ b → b < U → ¬ T b) : OwnRowsU B U w' v R := by
  rcases h with h | ⟨g, G, C, cap, rfl, h1, h2, h3, r1, r2⟩
  · exact Or.inl h
  · exact Or.inr ⟨g, G, C, cap, rfl, h1, h2, ⟨h3.base, h3.top.kept hk (hT g h3.base r1), fun r hr => (h3.rows r hr).kept hk (hT (G r) (h3.above r hr).1 (r2 r hr)), h3.caps, h3.above, h3.apart⟩, r1, r2⟩

theorem mrows_held (k : Int) (R : List (List Int)) : ∀ r, r < (mrows k R).length → (mrows k R).getD r [] = marks (k + (pre (mrows k R) r : Int)) ((mrows k R).getD r []).length := fun r hr => by
  rw [mrows_len] at hr
  rw [pre_mrows k R (by omega), mrows_row k R hr, mrows_get k R hr]

set_option maxHeartbeats 400000 in
theorem markIntSS_nil (w : World) : Calls Try.prog 74 #[.slice none 0 0, .int .i64 1] w fun e w' => e = .returned (.int .i64 1) ∧ w = w' := by
  go_enter Try.func74, Try.ntmps74
  go_wp2
  go_loopg [1, 5] 0 (fun _ kv iv wr => w = wr ∧ iv = .int .i64 0 ∧ kv = .int .i64 1)
  case atStart => exact ⟨rfl, rfl, rfl⟩
  case round =>
    obtain ⟨rfl, rfl, rfl⟩ := hrel
    go_wp2
    go_ret
    exact ⟨rfl, rfl⟩

end Go.Proofs.Ytjllilmiloippaa
