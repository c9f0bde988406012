/- Words for FnStrip's walk: rows of floats and of waves that are appended to. No statement about the program stands here. -/
import Derived.Test.YteohkabenbaaaaaFtA
import Derived.Test.YteohkabenbaaaaaTwoR
import Derived.Test.YteohkabenbaaaaaFlK
namespace Go.Proofs.Yteohkabenbaaaaa
open Go.RowKit

/-- A row beside one that is appended to. -/
theorem keep_row {A B : World} {v v' : Value} {N size k : Nat} {e : TypeId} {ys : List Value} (h : A.ownsRow N e size v' k ys) (hg : A.grownBy B v.ownBlock) (hne : ∀ g, v.ownBlock = some g → v'.ownBlock ≠ some g) : B.ownsRow N e size v' k ys := by
  refine h.kept hg ?_
  cases hv : v'.ownBlock with
  | none => exact .inl rfl
  | some b => exact .inr (fun e' => hne b e'.symm hv)
theorem keep_ne {A : World} {v v' : Value} {N size k g : Nat} {e : TypeId} {ys : List Value} (h : A.ownsRow N e size v' k ys) (hne : ∀ g, v.ownBlock = some g → v'.ownBlock ≠ some g) (hat : v.ownBlock = some g ∨ g = A.heap.size) : v'.ownBlock ≠ some g := by
  rcases hat with h3 | h3
  · exact hne _ h3
  · intro h2
    have := (h.lt _ h2).2
    omega

theorem ownsRow_flIn {w : World} {base : Nat} {e : TypeId} {v : Value} {k : Nat} {xs : List Nat} (h : w.ownsRow base e 1 v k (fls xs)) (hk : xs.length = k) : FlIn w v xs := by
  obtain ⟨h1, h2⟩ := h
  rcases h2 with ⟨rfl, h0⟩ | ⟨g, cap, cur, rfl, hg, hh, hc, hm, hs, ht⟩
  · have : xs = [] := List.length_eq_zero_iff.1 (by omega)
    subst this
    exact ⟨none, 0, rfl, Nat.le_refl _, Nat.zero_le _, fun i hi => by simp at hi⟩
  · subst hk
    refine OwnV.flIn ⟨cur, e, hh, fun i hi => ?_⟩ hc hm
    rw [fls_length] at hi
    rw [← ht]
    simp [hi]

theorem ownsRow_rw {w : World} {base : Nat} {e : TypeId} {v : Value} {k : Nat} {L : List F2} (h : w.ownsRow base e 2 v k (recCells 2 eW L)) (hk : L.length = k) : RW w v L := by
  obtain ⟨h1, h2⟩ := h
  rcases h2 with ⟨rfl, h0⟩ | ⟨g, cap, cur, rfl, hg, hh, hc, hm, hs, ht⟩
  · have : L = [] := List.length_eq_zero_iff.1 (by omega)
    subst this
    exact recsIn_nil
  · subst hk
    refine OwnV.recsIn ⟨cur, e, hh, fun i hi => ?_⟩ hc hm
    rw [recCells_length] at hi
    rw [← ht]
    simp [hi]

theorem recCells2_snoc (L : List F2) (p : F2) : recCells 2 eW (L ++ [p]) = recCells 2 eW L ++ [.float .f64 p.1, .float .f64 p.2] := by
  have e : (L ++ [p]).length * 2 = L.length * 2 + 1 + 1 := by simp; omega
  unfold recCells
  rw [e, List.range_succ, List.range_succ]
  simp only [List.map_append, List.map_cons, List.map_nil, List.append_assoc, List.cons_append, List.nil_append]
  congr 1
  · apply List.map_congr_left
    intro k hk
    have : k / 2 < L.length := by simp at hk; omega
    simp [List.getD, List.getElem?_append, this]
  · have h0 : L.length * 2 / 2 = L.length := by omega
    have h1 : (L.length * 2 + 1) / 2 = L.length := by omega
    have m0 : L.length * 2 % 2 = 0 := by omega
    have m1 : (L.length * 2 + 1) % 2 = 1 := by omega
    rw [h0, h1, m0, m1]
    simp [List.getD, eW]

theorem fls_snoc (xs : List Nat) (x : Nat) : fls (xs ++ [x]) = fls xs ++ [.float .f64 x] := by simp [fls]
theorem flI_snoc (X : List Int) (x : Int) : flI (X ++ [x]) = flI X ++ [floatOfInt .f64 x] := by simp [flI]
theorem repI_take (X : List Int) {k : Nat} (hk : k < X.length) : (repI X).take (k + 1) = (repI X).take k ++ [(0, (flI X).getD k 0)] := by
  rw [List.take_add_one]
  simp [repI, flI, List.getD, hk]
theorem twos_succ (k : Nat) : twos (k + 1) = twos k ++ [two64] := by simp [twos, List.replicate_succ']

/-- The amps between two rounds. -/
structure AmpW (N : Nat) (w A : World) (k : Nat) (X : List Int) (v : Value) : Prop where
  row : A.ownsRow N 30 1 v k (fls (flI X))
  below : Below N w A
  len : X.length = k
  dr : ∀ x ∈ X, -128 ≤ x ∧ x ≤ 127
  fv : ∃ g c, v = .slice (some ⟨g, 0, none⟩) k c

theorem ampW_next {N : Nat} {w A B : World} {k : Nat} {X : List Int} {v v1 : Value} (h : AmpW N w A k X v) (x : Int) (x0 : -128 ≤ x) (x1 : x ≤ 127)
    (ht : B.ownsRow N 30 1 v1 (k + 1) (fls (flI X) ++ [.float .f64 (floatOfInt .f64 x)])) (hb : Below N w B) (h5 : ∃ g c, v1 = .slice (some ⟨g, 0, none⟩) (k + 1) c) : AmpW N w B (k + 1) (X ++ [x]) v1 := by
  refine ⟨?_, hb, by simp [h.len], fun q hq => ?_, h5⟩
  · rw [flI_snoc, fls_snoc]; exact ht
  · rcases List.mem_append.1 hq with hq | hq
    · exact h.dr q hq
    · simp only [List.mem_singleton] at hq; omega

theorem sums_next {X : List Int} {k : Nat} (h : X.length = k) (x : Int) : reT (X ++ [x]) (k + 1) = reT X k + x * (ph k).1 ∧ imT (X ++ [x]) (k + 1) = imT X k + x * (ph k).2 ∧ sqT (X ++ [x]) (k + 1) = sqT X k + x * x := by
  have e : (X ++ [x]).getD k 0 = x := by simp [List.getD, ← h]
  rw [reT, imT, sqT, e, reT_app X _ k (by omega), imT_app X _ k (by omega), sqT_app X _ k (by omega)]
  exact ⟨rfl, rfl, rfl⟩

/-- The three rows of FnStrip's second loop. -/
structure Rows3 (w A : World) (k j m : Nat) (X : List Int) (av lv hv : Value) : Prop where
  a : A.ownsRow w.heap.size 30 1 av k (fls (flI X))
  l : A.ownsRow w.heap.size 32 2 lv j (recCells 2 eW ((repI X).take j))
  h : A.ownsRow w.heap.size 30 1 hv m (fls (twos m))
  la : ∀ g, lv.ownBlock = some g → av.ownBlock ≠ some g
  lh : ∀ g, lv.ownBlock = some g → hv.ownBlock ≠ some g
  ha : ∀ g, hv.ownBlock = some g → av.ownBlock ≠ some g
  below : Below w.heap.size w A
  fl : ∃ g c, lv = .slice (some ⟨g, 0, none⟩) j c
  fh : ∃ g c, hv = .slice (some ⟨g, 0, none⟩) m c

theorem ne_flip {v v' : Value} (h : ∀ g, v.ownBlock = some g → v'.ownBlock ≠ some g) : ∀ g, v'.ownBlock = some g → v.ownBlock ≠ some g := fun g h1 h2 => h g h2 h1

theorem rows3_new {w A : World} {k : Nat} {X : List Int} {av : Value} (h : AmpW w.heap.size w A k X av) :
    Rows3 w ((A.alloc (.cells #[] 32)).alloc (.cells #[] 30)) k 0 0 X av (.slice (some ⟨A.heap.size, 0, none⟩) 0 0) (.slice (some ⟨A.heap.size + 1, 0, none⟩) 0 0) := by
  have B := Below.step (Below.alloc1 A (.cells #[] 32)) (Below.alloc1 _ (.cells #[] 30))
  have hN := h.below.size
  refine ⟨ownsRow_below h.row B, ⟨rfl, Or.inr ⟨A.heap.size, 0, #[], rfl, hN, ?_, Nat.le_refl _, Nat.zero_le _, rfl, rfl⟩⟩, ⟨rfl, Or.inr ⟨A.heap.size + 1, 0, #[], rfl, by omega, ?_, Nat.le_refl _, Nat.zero_le _, rfl, rfl⟩⟩, fun g h1 h2 => ?_, fun g h1 h2 => ?_, fun g h1 h2 => ?_, Below.step h.below B, ⟨_, _, rfl⟩, ⟨_, _, rfl⟩⟩
  · exact (Below.heap_alloc _ _ _ (by simp)).trans (Go.Deep.blk_alloc_new _ _)
  · have := Go.Deep.blk_alloc_new (A.alloc (.cells #[] 32)) (.cells #[] 30)
    simpa using this
  · simp only [Value.ownBlock, Option.some.injEq] at h1
    have := (h.row.lt g h2).2
    omega
  · simp only [Value.ownBlock, Option.some.injEq] at h1 h2
    omega
  · simp only [Value.ownBlock, Option.some.injEq] at h1
    have := (h.row.lt g h2).2
    omega

theorem Rows3.step {w A B : World} {k j m : Nat} {X : List Int} {av lv hv : Value} (h : Rows3 w A k j m X av lv hv) (hb : Below A.heap.size A B) : Rows3 w B k j m X av lv hv :=
  ⟨ownsRow_below h.a hb, ownsRow_below h.l hb, ownsRow_below h.h hb, h.la, h.lh, h.ha, Below.step h.below hb, h.fl, h.fh⟩

theorem Rows3.grow_l {w A B : World} {k j m : Nat} {X : List Int} {av lv hv : Value} (h : Rows3 w A k j m X av lv hv) {g cap fj : Nat} (hj : j < X.length) (ef : fj = (flI X).getD j 0)
    (hown : B.ownsRow w.heap.size 32 2 (.slice (some ⟨g, 0, none⟩) (j + 1) cap) (j + 1) (recCells 2 eW ((repI X).take j) ++ [.float .f64 0, .float .f64 fj])) (hg : A.grownBy B lv.ownBlock) (hat : lv.ownBlock = some g ∨ g = A.heap.size) (hb : Below w.heap.size w B) :
    Rows3 w B k (j + 1) m X av (.slice (some ⟨g, 0, none⟩) (j + 1) cap) hv := by
  refine ⟨keep_row h.a hg h.la, ?_, keep_row h.h hg h.lh, fun g' h1 => ?_, fun g' h1 => ?_, h.ha, hb, ⟨_, _, rfl⟩, h.fh⟩
  · rw [repI_take X hj, recCells2_snoc, ← ef]; exact hown
  · simp only [Value.ownBlock, Option.some.injEq] at h1
    subst h1
    exact keep_ne h.a h.la hat
  · simp only [Value.ownBlock, Option.some.injEq] at h1
    subst h1
    exact keep_ne h.h h.lh hat

theorem Rows3.grow_h {w A B : World} {k j m : Nat} {X : List Int} {av lv hv : Value} (h : Rows3 w A k j m X av lv hv) {g cap : Nat}
    (hown : B.ownsRow w.heap.size 30 1 (.slice (some ⟨g, 0, none⟩) (m + 1) cap) (m + 1) (fls (twos m) ++ [.float .f64 two64])) (hg : A.grownBy B hv.ownBlock) (hat : hv.ownBlock = some g ∨ g = A.heap.size) (hb : Below w.heap.size w B) :
    Rows3 w B k j (m + 1) X av lv (.slice (some ⟨g, 0, none⟩) (m + 1) cap) := by
  refine ⟨keep_row h.a hg h.ha, keep_row h.l hg (ne_flip h.lh), ?_, h.la, ne_flip fun g' h1 => ?_, fun g' h1 => ?_, hb, h.fl, ⟨_, _, rfl⟩⟩
  · rw [twos_succ, fls_snoc]; exact hown
  · simp only [Value.ownBlock, Option.some.injEq] at h1
    subst h1
    exact keep_ne h.l (ne_flip h.lh) hat
  · simp only [Value.ownBlock, Option.some.injEq] at h1
    subst h1
    exact keep_ne h.a h.ha hat

theorem energyOf_ok {X : List Int} (h : xOk X) : enOk (repI X) (twos X.length) = true ∧ energyOf (repI X) (twos X.length) half64 = enTo (repI X) (twos X.length) half64 X.length := by
  have h1 : enOk (repI X) (twos X.length) = true := by
    have := h.1
    simp [enOk, repI, twos]
    omega
  refine ⟨h1, ?_⟩
  rw [energyOf, if_pos h1]
  simp [repI]
theorem energy_no {X : List Int} (y : Nat) : enOk (repI X) (twos X.length ++ [y]) = false := by simp [enOk, repI, twos]

end Go.Proofs.Yteohkabenbaaaaa
