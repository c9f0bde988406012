/- Own words: a slice of flat records (n cells each, each cell told by 'enc'), read in a world; such a slice in new memory of the call's own. No statement about the program stands here. -/
import Derived.Test.YtjpogaidcmndoaaBase
namespace Go.Proofs.Ytjpogaidcmndoaa
open Go.RowKit

/-- The slice value v holds the records L in w: n cells each, cell j of a record x being 'enc x j'. -/
def RecsIn {α : Type} [Inhabited α] (n : Nat) (enc : α → Nat → Value) (w : World) (v : Value) (L : List α) : Prop :=
  ∃ ao cap, v = .slice ao L.length cap ∧ L.length ≤ cap ∧ cap ≤ maxLen ∧ ∀ i, i < L.length → ∃ b o, ao = some ⟨b, o, none⟩ ∧ ∀ j, j < n → w.cell? ⟨b, o + (i * n + j), none⟩ = some (enc (L.getD i default) j)

section
variable {α : Type} [Inhabited α] {n : Nat} {enc : α → Nat → Value} {w w' : World} {v : Value} {L : List α}

theorem RecsIn.below (h : RecsIn n enc w v L) (hb : Below w.heap.size w w') : RecsIn n enc w' v L := by
  obtain ⟨ao, cap, e, h1, h2, h3⟩ := h
  refine ⟨ao, cap, e, h1, h2, fun i hi => ?_⟩
  obtain ⟨b, o, e1, hc⟩ := h3 i hi
  exact ⟨b, o, e1, fun j hj => (hb.cell (lt_of_cell (hc j hj))).trans (hc j hj)⟩

/-- The cells of records in a row. -/
def recCells (n : Nat) (enc : α → Nat → Value) (L : List α) : List Value := (List.range (L.length * n)).map fun k => enc (L.getD (k / n) default) (k % n)

theorem recCells_length : (recCells n enc L).length = L.length * n := by simp [recCells]

theorem rec_place {i j n : Nat} (hj : j < n) : (i * n + j) / n = i ∧ (i * n + j) % n = j := by
  have hn : 0 < n := by omega
  constructor
  · rw [Nat.add_comm, Nat.add_mul_div_right _ _ hn, Nat.div_eq_of_lt hj, Nat.zero_add]
  · rw [Nat.add_comm, Nat.add_mul_mod_self_right, Nat.mod_eq_of_lt hj]

theorem rec_lt {i j n m : Nat} (hi : i < m) (hj : j < n) : i * n + j < m * n := by
  have : (i + 1) * n ≤ m * n := Nat.mul_le_mul_right n (by omega)
  rw [Nat.succ_mul] at this
  omega

theorem recCells_get {i j : Nat} (hi : i < L.length) (hj : j < n) : (recCells n enc L)[i * n + j]? = some (enc (L.getD i default) j) := by
  have h := rec_lt hi hj
  simp [recCells, List.getElem?_range h, (rec_place (i := i) hj).1, (rec_place (i := i) hj).2]

theorem OwnV.recsIn {g cap : Nat} (h : OwnV w g (recCells n enc L)) (hl : L.length ≤ cap) (hm : cap ≤ maxLen) : RecsIn n enc w (.slice (some ⟨g, 0, none⟩) L.length cap) L :=
  ⟨_, cap, rfl, hl, hm, fun i hi => ⟨g, 0, rfl, fun j hj => by rw [Nat.zero_add]; exact h.cell (recCells_get hi hj)⟩⟩

theorem recsIn_nil : RecsIn n enc w (.slice none 0 0) ([] : List α) := ⟨none, 0, rfl, Nat.le_refl _, Nat.zero_le _, fun i hi => by simp at hi⟩

end

/-- make of k records. -/
theorem run_make_recs {P : Program} (t e : TypeId) (z : Value) (n bytes : Nat) (ht : P.underlying t = some (.slice e)) (hinfo : (P.info? e).map (fun i => (i.zero, i.size, i.bytes)) = some (some z, n, bytes))
    (kl kc : IntKind) (k : Nat) (hbytes : bytes * k ≤ 281474976710656) (h63 : k ≤ 9223372036854775807) (w : World) :
    (Instr.makeSlice t (.int kl (k : Int)) (.int kc (k : Int))).run P w = .ok (.slice (some ⟨w.heap.size, 0, none⟩) k k) (w.alloc (.cells (madeCells z.cells (k * n)) e)) := by
  obtain ⟨i, hi, hzz⟩ := Option.map_eq_some_iff.1 hinfo
  simp only [Prod.mk.injEq] at hzz
  obtain ⟨hz, hs, hb⟩ := hzz
  have hb' : (i.bytes : Int) * (k : Int) ≤ 281474976710656 := by
    have h : ((i.bytes * k : Nat) : Int) ≤ 281474976710656 := by rw [hb]; omega
    rwa [Int.natCast_mul] at h
  have hr := run_make (P := P) w t e i z ht hi hz kl kc k k (by omega) (Int.le_refl _) hb' (by omega)
  simp only [Int.toNat_natCast, hs] at hr
  exact hr

/-- Three numbers; two numbers. -/
abbrev I3 := Int × Int × Int
abbrev I2 := Int × Int
def e3 (x : I3) : Nat → Value
  | 0 => .int .i64 x.1
  | 1 => .int .i64 x.2.1
  | _ => .int .i64 x.2.2
def e2 (x : I2) : Nat → Value
  | 0 => .int .i64 x.1
  | _ => .int .i64 x.2
abbrev v3 (x : I3) : Value := .agg #[.int .i64 x.1, .int .i64 x.2.1, .int .i64 x.2.2]
abbrev v2 (x : I2) : Value := .agg #[.int .i64 x.1, .int .i64 x.2]
abbrev R3 := RecsIn 3 e3
abbrev R2 := RecsIn 2 e2

/-- One record of three, its cells written out, its three numbers as numbers of their own. -/
theorem rec3At {w : World} {ao : Option Addr} {L : List I3} {k : Nat} (h : ∀ i, i < L.length → ∃ b o, ao = some ⟨b, o, none⟩ ∧ ∀ j, j < 3 → w.cell? ⟨b, o + (i * 3 + j), none⟩ = some (e3 (L.getD i default) j)) (hk : k < L.length) :
    ∃ b o x y z, ao = some ⟨b, o, none⟩ ∧ w.cell? ⟨b, o + k * 3, none⟩ = some (.int .i64 x) ∧ w.cell? ⟨b, o + k * 3 + 1, none⟩ = some (.int .i64 y) ∧ w.cell? ⟨b, o + k * 3 + 2, none⟩ = some (.int .i64 z) ∧ Hid (L.getD k default = (x, y, z)) := by
  obtain ⟨b, o, e, hc⟩ := h k hk
  exact ⟨b, o, _, _, _, e, hc 0 (by omega), hc 1 (by omega), hc 2 (by omega), rfl⟩

theorem rec2At {w : World} {ao : Option Addr} {L : List I2} {k : Nat} (h : ∀ i, i < L.length → ∃ b o, ao = some ⟨b, o, none⟩ ∧ ∀ j, j < 2 → w.cell? ⟨b, o + (i * 2 + j), none⟩ = some (e2 (L.getD i default) j)) (hk : k < L.length) :
    ∃ b o x y, ao = some ⟨b, o, none⟩ ∧ w.cell? ⟨b, o + k * 2, none⟩ = some (.int .i64 x) ∧ w.cell? ⟨b, o + k * 2 + 1, none⟩ = some (.int .i64 y) ∧ Hid (L.getD k default = (x, y)) := by
  obtain ⟨b, o, e, hc⟩ := h k hk
  exact ⟨b, o, _, _, e, hc 0 (by omega), hc 1 (by omega), rfl⟩

theorem wcell3 {w w' : World} {b o : Nat} {v : Value} (h : w.cell? ⟨b, o, none⟩ = some v) (hb : Below w.heap.size w w') : w'.cell? ⟨b, o, none⟩ = some v := (hb.cell (lt_of_cell h)).trans h

/-- A new row of records in the block that w had next, the first m of its cells filled. -/
def FillC {α : Type} [Inhabited α] (n : Nat) (enc : α → Nat → Value) (w wr : World) (L : List α) (m : Nat) : Prop :=
  Below w.heap.size w wr ∧ ∃ c t, wr.heap[w.heap.size]? = some (.cells c t (0, 0)) ∧ c.size = L.length * n ∧ ∀ q, q < m → c[q]? = some (enc (L.getD (q / n) default) (q % n))

namespace FillC
variable {α : Type} [Inhabited α] {n : Nat} {enc : α → Nat → Value} {w wr w1 : World} {L : List α} {m : Nat}

theorem start (w : World) (L : List α) (z : Array Value) (t : TypeId) : FillC n enc w (w.alloc (.cells (madeCells z (L.length * n)) t)) L 0 :=
  ⟨(Below.refl _ _).alloc (Nat.le_refl _) _, _, t, Deep.blk_alloc_new _ _, size_madeCells _ _, fun q hq => by omega⟩

theorem below (h : FillC n enc w wr L m) : Below w.heap.size w wr := h.1

theorem lt (h : FillC n enc w wr L m) : w.heap.size < wr.heap.size := by
  obtain ⟨_, c, t, hb, _⟩ := h
  exact (Array.getElem?_eq_some_iff.1 hb).1

theorem grow (h : FillC n enc w wr L m) (hb : Below wr.heap.size wr w1) : FillC n enc w w1 L m := by
  have hlt := h.lt
  obtain ⟨h0, c, t, h1, h2, h3⟩ := h
  exact ⟨Below.step h0 hb, c, t, (hb.block _ hlt).trans h1, h2, h3⟩

theorem frozen (h : FillC n enc w wr L m) (j : Nat) : wr.frozen? ⟨w.heap.size, j, none⟩ = false := by
  obtain ⟨_, c, t, hb, _⟩ := h
  simp [World.frozen?, hb]

theorem cell (h : FillC n enc w wr L m) {q : Nat} (hq : q < L.length * n) : ∃ u, wr.cell? ⟨w.heap.size, q, none⟩ = some u := by
  obtain ⟨_, c, t, hb, hs, _⟩ := h
  have : q < c.size := by omega
  exact ⟨c[q], by simp [World.cell?, hb, this]⟩

theorem set (h : FillC n enc w wr L m) {v : Value} (hm : m < L.length * n) (hv : enc (L.getD (m / n) default) (m % n) = v) : FillC n enc w (wr.setCell ⟨w.heap.size, m, none⟩ v) L (m + 1) := by
  have hlt := h.lt
  obtain ⟨h0, c, t, h1, h2, h3⟩ := h
  refine ⟨h0.setCell (Nat.le_refl _) _, c.setIfInBounds m v, t, ?_, by simpa using h2, fun q hq => ?_⟩
  · simp [World.setCell, Array.getElem?_modify, h1]
  · rw [Array.getElem?_setIfInBounds]
    by_cases e : m = q
    · subst e
      rw [if_pos rfl, if_pos (by omega), hv]
    · rw [if_neg e]
      exact h3 q (by omega)

theorem done (h : FillC n enc w wr L (L.length * n)) : OwnV wr w.heap.size (recCells n enc L) := by
  obtain ⟨_, c, t, h1, h2, h3⟩ := h
  refine ⟨c, t, h1, fun i hi => ?_⟩
  rw [recCells_length] at hi
  rw [h3 i hi]
  simp [recCells, List.getElem?_range hi]

end FillC

/-- What a sz function tells: where it is not below 0 the list is not longer than 2^20. -/
def SizedL (n : Nat) (r : Int) : Prop := -1 ≤ r ∧ r ≤ 1048576 ∧ (0 ≤ r → n ≤ 1048576)

/-- Block g has N cells of the call's own, the first m of them marked from k on. -/
def MarkC (g : Nat) (k : Int) (N m : Nat) (w : World) : Prop := ∃ c t, w.heap[g]? = some (.cells c t (0, 0)) ∧ N ≤ c.size ∧ ∀ q : Nat, q < m → c[q]? = some (.int .i64 (k + (q : Int)))

namespace MarkC
variable {g N m : Nat} {k : Int} {w w' : World}

theorem start {vs : List Value} (h : OwnV w g vs) (hN : N ≤ vs.length) : MarkC g k N 0 w := by
  obtain ⟨c, t, hb, hc⟩ := h
  refine ⟨c, t, hb, ?_, fun q hq => by omega⟩
  rcases Nat.lt_or_ge c.size N with hlt | hge
  · have h1 := hc c.size (by omega)
    rw [List.getElem?_eq_getElem (by omega)] at h1
    simp at h1
  · exact hge

theorem frozen (h : MarkC g k N m w) (j : Nat) : w.frozen? ⟨g, j, none⟩ = false := by
  obtain ⟨c, t, hb, _⟩ := h
  simp [World.frozen?, hb]

theorem cell (h : MarkC g k N m w) {q : Nat} (hq : q < N) : ∃ u, w.cell? ⟨g, q, none⟩ = some u := by
  obtain ⟨c, t, hb, hs, _⟩ := h
  have : q < c.size := by omega
  exact ⟨c[q], by simp [World.cell?, hb, this]⟩

theorem set (h : MarkC g k N m w) (hm : m < N) {v : Int} (hv : v = k + (m : Int)) : MarkC g k N (m + 1) (w.setCell ⟨g, m, none⟩ (.int .i64 v)) := by
  subst hv
  obtain ⟨c, t, h1, h2, h3⟩ := h
  refine ⟨c.setIfInBounds m (.int .i64 (k + (m : Int))), t, ?_, by simpa using h2, fun q hq => ?_⟩
  · simp [World.setCell, Array.getElem?_modify, h1]
  · rw [Array.getElem?_setIfInBounds]
    by_cases e : m = q
    · subst e
      rw [if_pos rfl, if_pos (by omega)]
    · rw [if_neg e]
      exact h3 q (by omega)

theorem done (h : MarkC g k N N w) : OwnV w g (ints ((List.range N).map fun i : Nat => k + (i : Int))) := by
  obtain ⟨c, t, h1, h2, h3⟩ := h
  refine ⟨c, t, h1, fun i hi => ?_⟩
  have hi' : i < N := by simpa [ints] using hi
  rw [h3 i hi']
  simp [ints, hi']

end MarkC

theorem marked_cell {w : World} {g N q : Nat} {k : Int} (h : OwnV w g (ints ((List.range N).map fun i : Nat => k + (i : Int)))) (hq : q < N) : w.cell? ⟨g, q, none⟩ = some (.int .i64 (k + (q : Int))) :=
  h.cell (by simp [ints, hq])

end Go.Proofs.Ytjpogaidcmndoaa
