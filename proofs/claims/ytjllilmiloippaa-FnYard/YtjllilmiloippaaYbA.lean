/- Links and piles in memory; a pile with a box more or less. Written by wip/mkyba.py. -/
import Derived.Test.YtjllilmiloippaaYbM
import Derived.Test.YtjllilmiloippaaYaC2
import Derived.Test.YtjllilmiloippaaRecH
import Derived.BigRegion
import Derived.Deep.RegionHeld
import Derived.Deep.RegionWith
import Derived.Deep.DeepMust
import Derived.OwnWalk
namespace Go.Proofs.Ytjllilmiloippaa
open Go.RowKit

/-- Links, the topmost first: none of their blocks is ever written into. -/
def Lnk (w : World) : List Int → Option Addr → Prop
  | [], p => p = none
  | x :: xs, p => ∃ g q, p = some ⟨g, 0, none⟩ ∧ OwnV w g [.int .i64 x, .pointer q] ∧ Lnk w xs q

/-- No link lies in block k. -/
def NoLink (w : World) (k : Nat) : Prop := ∀ x q, w.cell? ⟨k, 0, none⟩ = some (.int .i64 x) → w.cell? ⟨k, 1, none⟩ ≠ some (.pointer q)
theorem noLink_own {w : World} {k : Nat} {v : Value} {u : Value} {vs : List Value} (h : OwnV w k (v :: u :: vs)) (hu : ∀ q, u ≠ .pointer q) : NoLink w k := fun x q _ e => by
  have := h.cell (i := 1) rfl
  rw [this] at e
  exact hu q (Option.some.inj e)
theorem Lnk.kept {T : Nat → Prop} {w w' : World} (hk : Kept T w w') (hT : ∀ k, T k → NoLink w k) : ∀ {xs : List Int} {p : Option Addr}, Lnk w xs p → Lnk w' xs p
  | [], _, h => h
  | x :: _, _, ⟨g, q, e, ho, hl⟩ => ⟨g, q, e, ho.kept hk (fun ht => hT g ht x q (ho.cell (i := 0) rfl) (ho.cell (i := 1) rfl)), Lnk.kept hk hT hl⟩
theorem Lnk.below {w w' : World} {xs : List Int} {p : Option Addr} (h : Lnk w xs p) (hb : Below w.heap.size w w') : Lnk w' xs p := Lnk.kept (T := fun _ => False) (kept_of_below hb) (fun _ h => h.elim) h

/-- A pile as a record: its topmost link, how high it is. -/
def ePl (z : Option Addr × Nat) : Nat → Value
  | 0 => .pointer z.1
  | _ => .int .i64 (z.2 : Int)

theorem own_pile {w : World} {g i : Nat} {Z : List (Option Addr × Nat)} (h : OwnV w g (recCells 2 ePl Z)) (hi : i < Z.length) (p : Option Addr) (n : Nat) :
    OwnV ((w.setCell ⟨g, i * 2, none⟩ (.pointer p)).setCell ⟨g, i * 2 + 1, none⟩ (.int .i64 (n : Int))) g (recCells 2 ePl (Z.set i (p, n))) := by
  have h1 := h.set (i * 2) (.pointer p) (by rw [recCells_length]; omega)
  have e1 := recG_set (n := 2) (enc := ePl) Z (i := i) (j := 0) (by omega) hi (p, (Z.getD i default).2) (fun j' h1 h2 => by
    have : j' = 1 := by omega
    subst this; rfl)
  rw [show i * 2 + 0 = i * 2 by omega] at e1
  rw [show (Value.pointer p) = ePl (p, (Z.getD i default).2) 0 from rfl, e1] at h1
  have h2 := h1.set (i * 2 + 1) (.int .i64 (n : Int)) (by rw [recCells_length, List.length_set]; omega)
  have e2 := recG_set (n := 2) (enc := ePl) (Z.set i (p, (Z.getD i default).2)) (i := i) (j := 1) (by omega) (by rw [List.length_set]; exact hi) (p, n) (fun j' h1 h2 => by
    have : j' = 0 := by omega
    subst this
    simp [ePl, List.getD, hi])
  rw [show (Value.int .i64 (n : Int)) = ePl (p, n) 1 from rfl, e2, List.set_set] at h2
  exact h2

/-- The piles P in memory: block g has their records. -/
structure Gnd (w : World) (g : Nat) (Z : List (Option Addr × Nat)) (P : List (List Int)) : Prop where
  top : OwnV w g (recCells 2 ePl Z)
  len : Z.length = P.length
  lnk : ∀ s, s < P.length → Lnk w (P.getD s []) (Z.getD s default).1
  hgt : ∀ s, s < P.length → (Z.getD s default).2 = (P.getD s []).length

section
variable {w w' : World} {g : Nat} {Z : List (Option Addr × Nat)} {P : List (List Int)}
theorem Gnd.noInt (h : Gnd w g Z P) (hp : 0 < P.length) : ∀ k, k = g → NoLink w k := fun k e x q hc => by
  subst e
  have := h.top.cell (recCells_get (n := 2) (enc := ePl) (L := Z) (i := 0) (j := 0) (by rw [h.len]; exact hp) (by omega))
  simp only [Nat.zero_mul, Nat.add_zero] at this
  rw [this] at hc
  simp [ePl] at hc
theorem Gnd.below (h : Gnd w g Z P) (hb : Below w.heap.size w w') : Gnd w' g Z P := ⟨h.top.step hb, h.len, fun s hs => (h.lnk s hs).below hb, h.hgt⟩
theorem Gnd.kept {T : Nat → Prop} (h : Gnd w g Z P) (hk : Kept T w w') (hg : ¬ T g) (hT : ∀ k, T k → NoLink w k) : Gnd w' g Z P := ⟨h.top.kept hk hg, h.len, fun s hs => Lnk.kept hk hT (h.lnk s hs), h.hgt⟩
theorem Gnd.at (h : Gnd w g Z P) {s : Nat} (hs : s < P.length) : w.cell? ⟨g, s * 2, none⟩ = some (.pointer (Z.getD s default).1) ∧ w.cell? ⟨g, s * 2 + 1, none⟩ = some (.int .i64 (((P.getD s []).length : Nat) : Int)) := by
  have h0 := h.top.cell (recCells_get (n := 2) (enc := ePl) (L := Z) (i := s) (j := 0) (by rw [h.len]; exact hs) (by omega))
  have h1 := h.top.cell (recCells_get (n := 2) (enc := ePl) (L := Z) (i := s) (j := 1) (by rw [h.len]; exact hs) (by omega))
  rw [Nat.add_zero] at h0
  refine ⟨h0, h1.trans ?_⟩
  show some (Value.int .i64 (((Z.getD s default).2 : Nat) : Int)) = _
  rw [h.hgt s hs]
/-- A pile is written anew. -/
theorem Gnd.put (h : Gnd w g Z P) {s : Nat} (hs : s < P.length) {p : Option Addr} {row : List Int} (hl : Lnk w row p) :
    Gnd ((w.setCell ⟨g, s * 2, none⟩ (.pointer p)).setCell ⟨g, s * 2 + 1, none⟩ (.int .i64 ((row.length : Nat) : Int))) g (Z.set s (p, row.length)) (P.set s row) := by
  have hk : Kept (fun k => k = g) w ((w.setCell ⟨g, s * 2, none⟩ (.pointer p)).setCell ⟨g, s * 2 + 1, none⟩ (.int .i64 ((row.length : Nat) : Int))) :=
    ((Kept.refl (fun k => k = g) w).setCell (p := ⟨g, s * 2, none⟩) rfl _).setCell (p := ⟨g, s * 2 + 1, none⟩) rfl _
  have hT := h.noInt (by omega)
  refine ⟨own_pile h.top (by rw [h.len]; exact hs) p row.length, by rw [List.length_set, List.length_set, h.len], fun r hr => ?_, fun r hr => ?_⟩
  · rw [List.length_set] at hr
    have hz : r < Z.length := by rw [h.len]; exact hr
    by_cases e : r = s
    · subst e
      have := Lnk.kept hk hT hl
      simpa [List.getD, hr, hz] using this
    · have := Lnk.kept hk hT (h.lnk r hr)
      simpa [List.getD, List.getElem?_set_ne (fun x => e x.symm)] using this
  · rw [List.length_set] at hr
    have hz : r < Z.length := by rw [h.len]; exact hr
    by_cases e : r = s
    · subst e
      simp [List.getD, hr, hz]
    · have := h.hgt r hr
      simpa [List.getD, List.getElem?_set_ne (fun x => e x.symm)] using this
end

theorem own_new (W : World) (g : Nat) (cs : Array Value) (T : TypeId) (h : W.heap.size = g) : OwnV (W.alloc (.cells cs T)) g cs.toList := h ▸ ownV_alloc W cs T

abbrev plV (p : Option Addr) (n : Nat) : Value := .agg #[.pointer p, .int .i64 (n : Int)]

set_option maxHeartbeats 1600000 in
theorem withI_any (p : Option Addr) (n : Nat) (x : Int) (w : World) (hn : n ≤ 1048576) :
    Calls Try.prog 109 #[plV p n, .int .i64 x] w fun e w' => ∃ g, e = .returned (plV (some ⟨g, 0, none⟩) (n + 1)) ∧ OwnV w' g [.int .i64 x, .pointer p] ∧ w.heap.size ≤ g ∧ Below w.heap.size w w' := by
  unfold plV
  go_enter Try.func109, Try.ntmps109
  go_wp2
  refine bodyPost_ret (v := .agg #[.pointer (some ⟨w.heap.size + 2, 0, none⟩), .int .i64 ((n : Int) + 1)]) (by simp [results, Try.results109, go_sem]) rfl ?_
  refine ⟨_, by rw [show ((n : Int) + 1) = ((n + 1 : Nat) : Int) by omega], own_new _ _ _ _ (by simp), by omega, Below.step (Below.step (Below.alloc1 _ _) (Below.alloc1 _ _)) (Below.alloc1 _ _)⟩

set_option maxHeartbeats 1600000 in
theorem withT_any (p : Option Addr) (n : Nat) (x : Int) (w : World) (hn : n ≤ 1048576) :
    Calls Try.prog 114 #[plV p n, .int .i64 x] w fun e w' => ∃ g, e = .returned (plV (some ⟨g, 0, none⟩) (n + 1)) ∧ OwnV w' g [.int .i64 x, .pointer p] ∧ w.heap.size ≤ g ∧ Below w.heap.size w w' := by
  unfold plV
  go_enter Try.func114, Try.ntmps114
  go_wp2
  refine bodyPost_ret (v := .agg #[.pointer (some ⟨w.heap.size + 2, 0, none⟩), .int .i64 ((n : Int) + 1)]) (by simp [results, Try.results114, go_sem]) rfl ?_
  refine ⟨_, by rw [show ((n : Int) + 1) = ((n + 1 : Nat) : Int) by omega], own_new _ _ _ _ (by simp), by omega, Below.step (Below.step (Below.alloc1 _ _) (Below.alloc1 _ _)) (Below.alloc1 _ _)⟩

end Go.Proofs.Ytjllilmiloippaa
