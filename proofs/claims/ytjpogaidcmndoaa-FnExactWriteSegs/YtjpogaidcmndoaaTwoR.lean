/- Two rows of one's own beside each other, each appended to; rows of records. -/
import Derived.Test.YtjpogaidcmndoaaRecs
import Derived.Test.YtjpogaidcmndoaaWalkL
import Derived.Deep.AppendLies
namespace Go.Proofs.Ytjpogaidcmndoaa
open Go.RowKit

/-- Two slices that own their rows, which are apart. -/
structure TwoR (N : Nat) (e : TypeId) (size : Nat) (A : World) (v v' : Value) (k k' : Nat) (xs ys : List Value) : Prop where
  a : A.ownsRow N e size v k xs
  b : A.ownsRow N e size v' k' ys
  ne : ∀ g, v.ownBlock = some g → v'.ownBlock ≠ some g

theorem TwoR.symm {N : Nat} {e : TypeId} {size : Nat} {A : World} {v v' : Value} {k k' : Nat} {xs ys : List Value} (h : TwoR N e size A v v' k k' xs ys) : TwoR N e size A v' v k' k ys xs := ⟨h.b, h.a, fun g h1 h2 => h.ne g h2 h1⟩

theorem TwoR.below {N : Nat} {e : TypeId} {size : Nat} {A B : World} {v v' : Value} {k k' : Nat} {xs ys : List Value} (h : TwoR N e size A v v' k k' xs ys) (hb : Below A.heap.size A B) : TwoR N e size B v v' k k' xs ys := ⟨ownsRow_below h.a hb, ownsRow_below h.b hb, h.ne⟩

/-- Behind an append to the first. -/
theorem TwoR.grown {N : Nat} {e : TypeId} {size : Nat} {A B : World} {v v' : Value} {k k' m cap g : Nat} {xs ys zs : List Value} (h : TwoR N e size A v v' k k' xs ys)
    (ho : B.ownsRow N e size (.slice (some ⟨g, 0, none⟩) m cap) m zs) (hg : A.grownBy B v.ownBlock) (hat : v.ownBlock = some g ∨ g = A.heap.size) : TwoR N e size B (.slice (some ⟨g, 0, none⟩) m cap) v' m k' zs ys := by
  refine ⟨ho, h.b.kept hg ?_, fun g' h1 h2 => ?_⟩
  · cases hv : v'.ownBlock with
    | none => exact .inl rfl
    | some b => exact .inr (fun e' => h.ne b e'.symm hv)
  · simp only [Value.ownBlock, Option.some.injEq] at h1
    subst h1
    rcases hat with h3 | h3
    · exact h.ne _ h3 h2
    · have := (h.b.lt _ h2).2; omega

theorem ownsRow_setOther {w : World} {base n size : Nat} {e : TypeId} {v : Value} {xs : List Value} (h : w.ownsRow base e size v n xs) {a : Addr} (hne : v.ownBlock ≠ some a.block) (x : Value) : (w.setCell a x).ownsRow base e size v n xs := by
  obtain ⟨h1, h2⟩ := h
  refine ⟨h1, ?_⟩
  rcases h2 with h2 | ⟨g, cap, cur, rfl, hg, hh, r⟩
  · exact Or.inl h2
  · exact Or.inr ⟨g, cap, cur, rfl, hg, (Below.heap_setCell _ _ _ _ (fun e' => hne (by simp [Value.ownBlock, e']))).trans hh, r⟩

theorem TwoR.setOther {N : Nat} {e : TypeId} {size : Nat} {A : World} {v v' : Value} {k k' : Nat} {xs ys : List Value} (h : TwoR N e size A v v' k k' xs ys) {a : Addr} (h1 : v.ownBlock ≠ some a.block) (h2 : v'.ownBlock ≠ some a.block) (x : Value) : TwoR N e size (A.setCell a x) v v' k k' xs ys := ⟨ownsRow_setOther h.a h1 x, ownsRow_setOther h.b h2 x, h.ne⟩

theorem recCells_snoc (L : List I3) (p : I3) : recCells 3 e3 (L ++ [p]) = recCells 3 e3 L ++ [.int .i64 p.1, .int .i64 p.2.1, .int .i64 p.2.2] := by
  have e : (L ++ [p]).length * 3 = L.length * 3 + 1 + 1 + 1 := by simp; omega
  unfold recCells
  rw [e, List.range_succ, List.range_succ, List.range_succ]
  simp only [List.map_append, List.map_cons, List.map_nil, List.append_assoc, List.cons_append, List.nil_append]
  congr 1
  · apply List.map_congr_left
    intro k hk
    have : k / 3 < L.length := by simp at hk; omega
    simp [List.getD, List.getElem?_append, this]
  · have h0 : L.length * 3 / 3 = L.length := by omega
    have h1 : (L.length * 3 + 1) / 3 = L.length := by omega
    have h2 : (L.length * 3 + 1 + 1) / 3 = L.length := by omega
    have m0 : L.length * 3 % 3 = 0 := by omega
    have m1 : (L.length * 3 + 1) % 3 = 1 := by omega
    have m2 : (L.length * 3 + 1 + 1) % 3 = 2 := by omega
    rw [h0, h1, h2, m0, m1, m2]
    simp [List.getD, e3]

/-- A slice that owns the cells of records reads as they. -/
theorem ownsRow_recs {w : World} {base : Nat} {e : TypeId} {v : Value} {k : Nat} {L : List I3} (h : w.ownsRow base e 3 v k (recCells 3 e3 L)) (hk : L.length = k) : R3 w v L := by
  obtain ⟨h1, h2⟩ := h
  rcases h2 with ⟨rfl, h0⟩ | ⟨g, cap, cur, rfl, hg, hh, hc, hm, hs, ht⟩
  · have : L = [] := List.length_eq_zero_iff.1 (by omega)
    subst this
    exact recsIn_nil
  · subst hk
    refine OwnV.recsIn ⟨cur, e, hh, fun i hi => ?_⟩ hc hm
    rw [recCells_length] at hi
    rw [← ht]
    simp [hi]

end Go.Proofs.Ytjpogaidcmndoaa
