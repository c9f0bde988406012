/- FnLeast: its draws and its law. Laid together by wip/lay18.py. -/
import Derived.Test.YtdiifkeebgdfkaaYaE
import Derived.Test.YtdiifkeebgdfkaaYaS
import Derived.Test.YtdiifkeebgdfkaaDrE
import Derived.Test.YtdiifkeebgdfkaaYaU2
import Derived.Deep.RegionHeld3
import Derived.Deep.RegionWith
import Derived.Deep.DeepCutAuto
import Derived.Deep.Cut
import Derived.BigRegion
import Derived.Test.YtdiifkeebgdfkaaYbX
import Derived.Test.YtdiifkeebgdfkaaAtFix
namespace Go.Proofs.Ytdiifkeebgdfkaa
open Go.RowKit

/-- A row's value: its block (or none), its length, its capacity. -/
def sltV (a : Option Nat) (m c : Nat) : Value := .slice (a.map fun b => ⟨b, 0, none⟩) m c
def topsR (A : Nat → Option Nat) (C : Nat → Nat) (R : List (List Int)) : List Value := (List.range R.length).map fun s => sltV (A s) (R.getD s []).length (C s)
theorem topsR_len (A : Nat → Option Nat) (C : Nat → Nat) (R : List (List Int)) : (topsR A C R).length = R.length := by simp [topsR]
theorem topsR_get (A : Nat → Option Nat) (C : Nat → Nat) (R : List (List Int)) {s : Nat} (h : s < R.length) : (topsR A C R)[s]? = some (sltV (A s) (R.getD s []).length (C s)) := by
  simp [topsR, h]
def updA (A : Nat → Option Nat) (s g : Nat) : Nat → Option Nat := fun t => if t = s then some g else A t
def updC (C : Nat → Nat) (s c : Nat) : Nat → Nat := fun t => if t = s then c else C t
theorem topsR_set (A : Nat → Option Nat) (C : Nat → Nat) (R : List (List Int)) {s g c : Nat} {row : List Int} (h : s < R.length) : (topsR A C R).set s (sltV (some g) row.length c) = topsR (updA A s g) (updC C s c) (R.set s row) := by
  apply List.ext_getElem?
  intro i
  by_cases hi : i < R.length
  · rw [topsR_get _ _ _ (by rw [List.length_set]; exact hi)]
    by_cases e : i = s
    · subst e
      rw [List.getElem?_set_self (by rw [topsR_len]; exact h), rowset_self h]
      simp [updA, updC]
    · rw [List.getElem?_set_ne (fun x => e x.symm), topsR_get _ _ _ hi, rowset_ne e]
      simp [updA, updC, e]
  · rw [List.getElem?_eq_none (by simp [topsR_len]; omega), List.getElem?_eq_none (by simp [topsR_len]; omega)]

structure YR (w : World) (B g : Nat) (A : Nat → Option Nat) (C : Nat → Nat) (R : List (List Int)) : Prop where
  top : OwnV w g (topsR A C R)
  row : ∀ s, s < R.length → RowB 3 1 eI B w ((A s).map fun b => ⟨b, 0, none⟩) (R.getD s []).length (C s) (R.getD s [])
  apart : ∀ s t b, s < R.length → t < R.length → A s = some b → A t = some b → s = t
  gB : g < B

theorem YR.rowBlk {w : World} {B g : Nat} {A : Nat → Option Nat} {C : Nat → Nat} {R : List (List Int)} (h : YR w B g A C R) {s b : Nat} (hs : s < R.length) (e : A s = some b) : B ≤ b ∧ b < w.heap.size := by
  have := h.row s hs
  rw [e] at this
  rcases this.parts (by omega) with ⟨e2, _⟩ | ⟨b', e2, h1, h2, _⟩
  · cases e2
  · simp only [Option.map_some, Option.some.injEq, Addr.mk.injEq, and_true] at e2
    subst e2
    exact ⟨h1, h2⟩
theorem YR.some {w : World} {B g : Nat} {A : Nat → Option Nat} {C : Nat → Nat} {R : List (List Int)} (h : YR w B g A C R) {s : Nat} (hs : s < R.length) (hp : 0 < (R.getD s []).length) : ∃ b, A s = some b ∧ OwnV w b (ints (R.getD s [])) ∧ (R.getD s []).length ≤ C s ∧ C s ≤ maxLen := by
  cases e : A s with
  | none =>
    have := h.row s hs
    rw [e] at this
    rcases this.parts (by omega) with ⟨_, e2, _⟩ | ⟨b', e2, _⟩
    · omega
    · cases e2
  | some b =>
    have := h.row s hs
    rw [e] at this
    rcases this.parts (by omega) with ⟨e2, _⟩ | ⟨b', e2, h1, h2, h3, h4, h5⟩
    · cases e2
    · simp only [Option.map_some, Option.some.injEq, Addr.mk.injEq, and_true] at e2
      subst e2
      rw [recI] at h5
      exact ⟨b, rfl, h5, h3, h4⟩
theorem YR.kept {P : Nat → Prop} {w w' : World} {B g : Nat} {A : Nat → Option Nat} {C : Nat → Nat} {R : List (List Int)} (h : YR w B g A C R) (hk : Kept P w w') (hg : ¬ P g) (hB : ∀ b, B ≤ b → b < w.heap.size → ¬ P b) : YR w' B g A C R :=
  ⟨h.top.kept hk hg, fun s hs => (h.row s hs).kept hk (fun b _ h1 h2 => hB b h1 h2), h.apart, h.gB⟩
theorem YR.below {w w' : World} {B g : Nat} {A : Nat → Option Nat} {C : Nat → Nat} {R : List (List Int)} (h : YR w B g A C R) (hb : Below w.heap.size w w') : YR w' B g A C R :=
  h.kept (P := fun _ => False) (kept_of_below hb) (fun h => h) (fun _ _ _ h => h)
theorem YR.cell {w : World} {B g : Nat} {A : Nat → Option Nat} {C : Nat → Nat} {R : List (List Int)} (h : YR w B g A C R) {s : Nat} (hs : s < R.length) : w.cell? ⟨g, s, none⟩ = Option.some (sltV (A s) (R.getD s []).length (C s)) := h.top.cell (topsR_get A C R hs)
/-- A row's new slice laid in its place, the row's block the same or a new one. -/
theorem YR.put' {w w' : World} {B g : Nat} {A : Nat → Option Nat} {C : Nat → Nat} {R : List (List Int)} (h : YR w B g A C R) {s : Nat} (hs : s < R.length) {g' c' : Nat} {row : List Int} (hk : Kept (fun b => A s = Option.some b) w w')
    (hr : RowB 3 1 eI B w' (Option.some ⟨g', 0, none⟩) row.length c' row) (hne : ∀ t, t < R.length → t ≠ s → A t ≠ Option.some g') : YR (w'.setCell ⟨g, s, none⟩ (sltV (Option.some g') row.length c')) B g (updA A s g') (updC C s c') (R.set s row) := by
  have hgl : g < w.heap.size := h.top.lt
  have hgT : ¬ A s = Option.some g := fun e => by have := (h.rowBlk hs e).1; have := h.gB; omega
  have hkS : Kept (fun b => b = g) w' (w'.setCell ⟨g, s, none⟩ (sltV (Option.some g') row.length c')) := (Kept.refl (fun b => b = g) w').setCell (p := ⟨g, s, none⟩) rfl _
  have hlen : ∀ t, t < (R.set s row).length → t < R.length := fun t ht => by rwa [List.length_set] at ht
  refine ⟨?_, fun t ht => ?_, fun t u b ht hu e1 e2 => ?_, h.gB⟩
  · have := (h.top.kept hk hgT).set s (sltV (Option.some g') row.length c') (by rw [topsR_len]; exact hs)
    rwa [topsR_set A C R hs] at this
  · have ht' := hlen t ht
    by_cases e : t = s
    · subst e
      rw [rowset_self hs]
      have e1 : updA A t g' t = Option.some g' := by simp [updA]
      have e2 : updC C t c' t = c' := by simp [updC]
      rw [e1, e2]
      exact hr.kept hkS (fun b _ h1 _ e => by have := h.gB; omega)
    · rw [rowset_ne e]
      have e1 : updA A s g' t = A t := by simp [updA, e]
      have e2 : updC C s c' t = C t := by simp [updC, e]
      rw [e1, e2]
      exact ((h.row t ht').kept hk (fun b e3 _ _ e4 => by
        cases e5 : A t with
        | none => rw [e5] at e3; cases e3
        | some b' =>
          rw [e5] at e3
          simp only [Option.map_some, Option.some.injEq, Addr.mk.injEq, and_true] at e3
          subst e3
          exact e (h.apart t s b' ht' hs e5 e4))).kept hkS (fun b _ h1 _ e => by have := h.gB; omega)
  · have ht' := hlen t ht
    have hu' := hlen u hu
    have key := hne
    by_cases e3 : t = s
    · by_cases e4 : u = s
      · rw [e3, e4]
      · exfalso
        simp only [updA, e3, if_true, if_neg e4, Option.some.injEq] at e1 e2
        exact key u hu' e4 (by rw [e2, e1])
    · by_cases e4 : u = s
      · exfalso
        simp only [updA, if_neg e3, e4, if_true, Option.some.injEq] at e1 e2
        exact key t ht' e3 (by rw [e1, e2])
      · simp only [updA, if_neg e3, if_neg e4] at e1 e2
        exact h.apart t u b ht' hu' e1 e2
theorem YR.put {w w' : World} {B g : Nat} {A : Nat → Option Nat} {C : Nat → Nat} {R : List (List Int)} (h : YR w B g A C R) {s : Nat} (hs : s < R.length) {g' c' : Nat} {row : List Int} (hk : Kept (fun b => A s = Option.some b) w w')
    (hr : RowB 3 1 eI B w' (Option.some ⟨g', 0, none⟩) row.length c' row) (hg : A s = Option.some g' ∨ w.heap.size ≤ g') : YR (w'.setCell ⟨g, s, none⟩ (sltV (Option.some g') row.length c')) B g (updA A s g') (updC C s c') (R.set s row) :=
  h.put' hs hk hr fun t ht hts et => by
    rcases hg with e | e
    · exact hts (h.apart t s g' ht hs et e)
    · have := (h.rowBlk ht et).2; omega
theorem YR.keptA {P : Nat → Prop} {w w' : World} {B g : Nat} {A : Nat → Option Nat} {C : Nat → Nat} {R : List (List Int)} (h : YR w B g A C R) (hk : Kept P w w') (hg : ¬ P g) (hA : ∀ s b, s < R.length → A s = Option.some b → ¬ P b) : YR w' B g A C R :=
  ⟨h.top.kept hk hg, fun s hs => (h.row s hs).kept hk (fun b e _ _ => hA s b hs (by cases e2 : A s with | none => rw [e2] at e; cases e | some b' => rw [e2] at e; simp only [Option.map_some, Option.some.injEq, Addr.mk.injEq, and_true] at e; rw [e])), h.apart, h.gB⟩
/-- A number of a row written anew. -/
theorem YR.setCell {w : World} {B g : Nat} {A : Nat → Option Nat} {C : Nat → Nat} {R : List (List Int)} (h : YR w B g A C R) {s i b : Nat} (hs : s < R.length) (hi : i < (R.getD s []).length) (e : A s = Option.some b) (x : Int) : YR (w.setCell ⟨b, i, none⟩ (.int .i64 x)) B g A C (R.set s ((R.getD s []).set i x)) := by
  have hb := h.rowBlk hs e
  have hkS : Kept (fun k => k = b) w (w.setCell ⟨b, i, none⟩ (.int .i64 x)) := (Kept.refl (fun k => k = b) w).setCell (p := ⟨b, i, none⟩) rfl _
  have hl : ∀ t, ((R.set s ((R.getD s []).set i x)).getD t []).length = (R.getD t []).length := fun t => by
    by_cases e : t = s
    · subst e; rw [rowset_self hs, List.length_set]
    · rw [rowset_ne e]
  refine ⟨?_, fun t ht => ?_, fun t u b' ht hu => h.apart t u b' (by rwa [List.length_set] at ht) (by rwa [List.length_set] at hu), h.gB⟩
  · have : topsR A C (R.set s ((R.getD s []).set i x)) = topsR A C R := by
      unfold topsR
      rw [List.length_set]
      exact List.map_congr_left fun t _ => by rw [hl t]
    rw [this]
    exact h.top.kept hkS (fun e2 => by have := h.gB; omega)
  · have ht' : t < R.length := by rwa [List.length_set] at ht
    rw [hl t]
    by_cases e2 : t = s
    · subst e2
      rw [rowset_self hs]
      have := h.row t hs
      rw [e] at this ⊢
      have := RowB.set this (i := i) (j := 0) (by omega) hi x (.int .i64 x) rfl (fun j' h1 h2 => by omega)
      rw [Nat.mul_one, Nat.add_zero] at this
      exact this
    · rw [rowset_ne e2]
      exact (h.row t ht').kept hkS (fun b' e3 _ _ e4 => by
        cases e5 : A t with
        | none => rw [e5] at e3; cases e3
        | some b2 =>
          rw [e5] at e3
          simp only [Option.map_some, Option.some.injEq, Addr.mk.injEq, and_true] at e3
          subst e3 e4
          exact e2 (h.apart t s _ ht' hs e5 e))
theorem YR.rows {w : World} {B g : Nat} {A : Nat → Option Nat} {C : Nat → Nat} {R : List (List Int)} (h : YR w B g A C R) {c : Nat} (hc : R.length ≤ c) (hm : c ≤ maxLen) : RowsIn w (.slice (Option.some ⟨g, 0, none⟩) R.length c) R :=
  ⟨_, c, rfl, hc, hm, fun s hs => ⟨g, 0, _, rfl, by rw [Nat.zero_add]; exact h.cell hs, recs_ints ((h.row s hs).recs (by omega))⟩⟩
theorem yr_new (w : World) (B g n : Nat) (hO : OwnV w g (List.replicate n (.slice none 0 0))) (hB : g < B) : YR w B g (fun _ => none) (fun _ => 0) (List.replicate n []) := by
  have hrow : ∀ s, s < n → (List.replicate n ([] : List Int)).getD s [] = [] := fun s hs => by simp [List.getD, hs]
  refine ⟨?_, fun s hs => ?_, fun s t b _ _ e => (by cases e), hB⟩
  · have : topsR (fun _ => none) (fun _ => 0) (List.replicate n ([] : List Int)) = List.replicate n (.slice none 0 0) := by
      apply List.ext_getElem?
      intro i
      by_cases hi : i < n
      · rw [topsR_get _ _ _ (by simpa using hi), hrow i hi]
        simp [sltV, hi]
      · rw [List.getElem?_eq_none (by simp [topsR_len]; omega), List.getElem?_eq_none (by simp; omega)]
    rw [this]
    exact hO
  · rw [hrow s (by simpa using hs)]
    exact rowB_nil 3 1 eI B w
theorem yok_new {H : Int} {n : Nat} (h1 : 1 ≤ H) (h2 : H ≤ 6) (n1 : 1 ≤ n) (n2 : n ≤ 12) : YOk H (List.replicate n []) := by
  have hrow : ∀ s, s < n → (List.replicate n ([] : List Int)).getD s [] = [] := fun s hs => by simp [List.getD, hs]
  have hf : (List.replicate n ([] : List Int)).flatten = [] := by simp
  exact ⟨h1, h2, by simpa using n1, by simpa using n2, fun s hs => by rw [hrow s (by simpa using hs)]; simp; omega, fun s hs t ht => by rw [hrow s (by simpa using hs)] at ht; simp at ht, by rw [hf]; exact List.nodup_nil⟩
theorem count_set {l : List Int} {i : Nat} (hi : i < l.length) (v x : Int) : (l.set i v).count x + (if l.getD i 0 = x then 1 else 0) = l.count x + (if v = x then 1 else 0) := by
  induction l generalizing i with
  | nil => simp at hi
  | cons a l ih =>
    cases i with
    | zero =>
      rw [List.set_cons_zero, List.count_cons, List.count_cons, List.getD_cons_zero]
      simp only [beq_iff_eq]
      omega
    | succ i =>
      have := ih (i := i) (by simpa using hi)
      rw [List.set_cons_succ, List.count_cons, List.count_cons, List.getD_cons_succ]
      omega
theorem getD_setI {l : List Int} {j : Nat} (x : Int) (v : Nat) (hj : j < l.length) : (l.set j x).getD v 0 = if v = j then x else l.getD v 0 := by
  by_cases e : v = j
  · subst e; rw [if_pos rfl]; simp [List.getD, hj]
  · rw [if_neg e]; simp [List.getD, List.getElem?_set_ne (show j ≠ v by omega)]
/-- Two of a row changed with each other. -/
theorem swap_ok {H : Int} {R : List (List Int)} (h : YOk H R) {s i k : Nat} (hs : s < R.length) (hi : i < (R.getD s []).length) (hk : k < (R.getD s []).length) :
    YOk H (R.set s (((R.getD s []).set i ((R.getD s []).getD k 0)).set k ((R.getD s []).getD i 0))) ∧ ∀ x, (R.set s (((R.getD s []).set i ((R.getD s []).getD k 0)).set k ((R.getD s []).getD i 0))).flatten.count x = R.flatten.count x := by
  have cnt : ∀ x, (((R.getD s []).set i ((R.getD s []).getD k 0)).set k ((R.getD s []).getD i 0)).count x = (R.getD s []).count x := fun x => by
    have h1 := count_set (l := (R.getD s []).set i ((R.getD s []).getD k 0)) (i := k) (by rw [List.length_set]; exact hk) ((R.getD s []).getD i 0) x
    have h2 := count_set hi ((R.getD s []).getD k 0) x
    rw [getD_setI _ k hi] at h1
    by_cases e : k = i
    · subst e
      rw [if_pos rfl] at h1
      omega
    · rw [if_neg e] at h1
      omega
  have hc : ∀ x, (R.set s (((R.getD s []).set i ((R.getD s []).getD k 0)).set k ((R.getD s []).getD i 0))).flatten.count x = R.flatten.count x := fun x => by
    have := set_flat_count R s (((R.getD s []).set i ((R.getD s []).getD k 0)).set k ((R.getD s []).getD i 0)) x hs
    rw [cnt x] at this
    omega
  refine ⟨h.of_count (by simp) (fun t ht => ?_) (fun x => Nat.le_of_eq (hc x)), hc⟩
  by_cases e : t = s
  · subst e
    rw [rowset_self hs, List.length_set, List.length_set]
    exact h.low t hs
  · rw [rowset_ne e]; exact h.low t ht
theorem in_count {R : List (List Int)} {s : Nat} (x : Int) (hs : s < R.length) (y : Int) : (R.set s (R.getD s [] ++ [x])).flatten.count y = R.flatten.count y + if x = y then 1 else 0 := by
  have := set_flat_count R s (R.getD s [] ++ [x]) y hs
  rw [List.count_append, List.count_singleton] at this
  simp only [beq_iff_eq] at this
  omega

end Go.Proofs.Ytdiifkeebgdfkaa

namespace Go.Proofs.Ytdiifkeebgdfkaa
open Go.RowKit

theorem made_rows (n : Nat) : (madeCells #[Value.slice none 0 0] n).toList = List.replicate n (.slice none 0 0) := by
  apply List.ext_getElem
  · simp [madeCells]
  · intro i h1 h2
    simp [madeCells, Nat.mod_one]
theorem keptNew {T P : Nat → Prop} {w W W' : World} (h : Kept T w W) (hk : Kept P W W') (hP : ∀ b, P b → w.heap.size ≤ b) : Kept T w W' :=
  ⟨hk.os.trans h.os, hk.tape.trans h.tape, hk.output.trans h.output, Nat.le_trans h.size hk.size, fun b hb hT => (hk.block b (Nat.lt_of_lt_of_le hb h.size) (fun e => by have := hP b e; omega)).trans (h.block b hb hT)⟩

/-- No box is greater. -/
def TopY (R : List (List Int)) (b : Int) : Prop := ∀ x ∈ R.flatten, x ≤ b

set_option maxRecDepth 100000 in
set_option maxHeartbeats 16000000 in
theorem l18Draw_any (cb n : Nat) (v : Value) (k m : Nat) (w : World) (h : Cur w cb v n) (hn : n ≤ 1048576) (hk0 : 1 ≤ k) (hk1 : k ≤ 12) (hm : m ≤ 1000) :
    Calls Try.prog 42 #[.pointer (some ⟨cb, 0, none⟩), .int .i64 k, .int .i64 m] w fun e w' => ∃ H g B A C R, e = .returned (yardV H (.slice (some ⟨g, 0, none⟩) k k)) ∧ Hid (YR w' B g A C R) ∧ Hid (YOk H R) ∧ R.length = k ∧ Hid (TopY R (2 * (m : Int))) ∧ w.heap.size ≤ g ∧ B ≤ w'.heap.size ∧ Cur w' cb v n ∧ Kept (fun b => b = cb) w w' := by
  have HC := hide h
  have hcl := h.lt
  have hA := Below.alloc1 w (.cells #[.int .i64 0, .slice none 0 0] 26)
  have HR := hide (ownV_alloc w #[.int .i64 0, .slice none 0 0] 26)
  have HW := hide (kept_of_below (T := fun b => b = cb) hA)
  replace HC := hide ((unhide HC).below hA)
  have hmk := run_make_row' (P := Try.prog) 24 30 (.slice none 0 0) 24 Try.underlying24 Try.info30 rfl .i64 .i64 k (by omega) (by omega)
  clear h
  unfold yardV
  go_enter Try.func42, Try.ntmps42
  go_upto_region 1 with (fail)
  obtain ⟨gr, egr⟩ : ∃ z, z = w.heap.size := ⟨_, rfl⟩
  obtain ⟨W0, eW0⟩ : ∃ z, z = w.alloc (.cells #[.int .i64 0, .slice none 0 0] 26) := ⟨_, rfl⟩
  rw [← eW0] at HR HW HC hA ⊢
  rw [← egr] at HR ⊢
  have hgr : w.heap.size ≤ gr := by omega
  have hl0 : w.heap.size ≤ W0.heap.size := hA.size
  clear hA egr eW0
  go_cut [7] (fun s7 wx => ∃ gy g H, s7 = .pointer (some ⟨gy, 0, none⟩) ∧ gy ≠ g ∧ gr < gy ∧ gr < g ∧ 1 ≤ H ∧ H ≤ 4 ∧ w.heap.size ≤ g ∧ Hid (OwnV wx gy [.int .i64 H, .slice (some ⟨g, 0, none⟩) k k]) ∧ Hid (OwnV wx g (List.replicate k (.slice none 0 0))) ∧ Hid (OwnV wx gr [.int .i64 0, .slice none 0 0]) ∧ Hid (Cur wx cb v n) ∧ Hid (Kept (fun b => b = cb) w wx))
  case first =>
    obtain ⟨wd, ewd⟩ : ∃ z, z = W0.drew := ⟨_, rfl⟩
    have hb : Below W0.heap.size W0 wd := by rw [ewd]; exact (Below.refl _ _).drew
    have hlwd := Nat.le_trans hl0 hb.size
    replace HW := hide ((unhide HW).trans (kept_of_below hb))
    replace HC := hide ((unhide HC).below hb)
    replace HR := hide ((unhide HR).step hb)
    clear hb
    refine wp_region_held_drew (S := fun w' => w'.cell? ⟨gr, 0, none⟩ = some (.int .i64 0)) (by kernel_rfl) (by rw [← ewd]; exact (unhide HR).cell (i := 0) rfl) (fun hHeld => ?_)
    rw [← ewd] at hHeld ⊢
    clear ewd
    refine wpAnyH_take (i := 0) (v := ?_) rfl (by kernel_rfl) (by kernel_rfl) (by kernel_rfl) (fun _ _ _ h => h) (Or.inl ⟨by rfl, ?_⟩) (by assumption) ?_
    rotate_left
    · intro wy hSw
      have hS0 := hSw
      go_simp
      try with_reducible rfl
    try simp only [Act.put, List.getElem_toArray, List.getElem_cons_zero, List.setIfInBounds_toArray, List.set_cons_zero, List.set_cons_succ]
    refine wpAnyH_take (i := 3) (v := ?_) rfl (by kernel_rfl) (by kernel_rfl) (by kernel_rfl) (fun _ _ _ h => h) (Or.inl ⟨by rfl, ?_⟩) (by assumption) ?_
    rotate_left
    · intro wy hSw
      have hS0 := hSw
      go_simp
      try with_reducible rfl
    try simp only [Act.put, List.getElem_toArray, List.getElem_cons_succ, List.getElem_cons_zero, List.setIfInBounds_toArray, List.set_cons_zero, List.set_cons_succ]
    refine wpAnyH_ready (rs := [1, 4, 6]) (by kernel_rfl) (by simp) ?_
    refine AllReadyH.cons rfl (fun K hK => ?_) (AllReadyH.cons rfl (fun K hK => ?_) (AllReadyH.cons rfl (fun K hK => ?_) (AllReadyH.nil)))
    · go_simp
      have HCQ := hide (l1BelowV_any cb n v 4 wd (unhide HC) hn (by omega) (by omega))
      refine (unhide HCQ).mono ?_
      rintro e v1 ⟨x, rfl, hx0, hx1, hC, hk⟩
      have hlv1 := Nat.le_trans hlwd hk.size
      replace HW := hide ((unhide HW).trans hk)
      replace HR := hide ((unhide HR).kept hk (fun e => by omega))
      replace HC := hide hC
      clear hC hk HCQ
      have hxw : IntKind.i64.wrap (1 + x) = 1 + x := by rw [IntKind.wrap_i64]; omega
      refine hK.out _ _ ((unhide HR).cell (i := 0) rfl) (fun hHeld => ?_)
      clear hK K
      try simp only [Act.put, List.setIfInBounds_toArray, List.set_cons_zero, List.set_cons_succ]
      refine wpAnyH_take (i := 2) (v := ?_) rfl (by kernel_rfl) (by kernel_rfl) (by kernel_rfl) (fun _ _ _ h => h) (Or.inl ⟨by rfl, ?_⟩) (by assumption) ?_
      rotate_left
      · intro wy hSw
        have hS0 := hSw
        go_simp
        try with_reducible rfl
      try simp only [Act.put, List.getElem_toArray, List.getElem_cons_succ, List.getElem_cons_zero, List.setIfInBounds_toArray, List.set_cons_zero, List.set_cons_succ]
      refine wpAnyH_ready (rs := [4, 6]) (by kernel_rfl) (by simp) ?_
      refine AllReadyH.cons rfl (fun K hK => ?_) (AllReadyH.cons rfl (fun K hK => ?_) (AllReadyH.nil))
      · go_simp
        obtain ⟨g, eg⟩ : ∃ z, z = v1.heap.size := ⟨_, rfl⟩
        have hgl : gr < g := by rw [eg]; exact (unhide HR).lt
        obtain ⟨v41, ew⟩ : ∃ z, z = v1.alloc (.cells (madeCells #[.slice none 0 0] k) 30) := ⟨_, rfl⟩
        have hb : Below v1.heap.size v1 v41 := by rw [ew]; exact Below.alloc1 _ _
        have hlv41 := Nat.le_trans hlv1 hb.size
        have HT : Hid (OwnV v41 g (List.replicate k (.slice none 0 0))) := by rw [ew, eg, ← made_rows]; exact ownV_alloc _ _ _
        rw [← ew, ← eg]
        replace HW := hide ((unhide HW).trans (kept_of_below hb))
        replace HC := hide ((unhide HC).below hb)
        replace HR := hide ((unhide HR).step hb)
        clear hb ew eg
        refine hK.out _ _ ((unhide HR).cell (i := 0) rfl) (fun hHeld => ?_)
        clear hK K
        try simp only [Act.put, List.setIfInBounds_toArray, List.set_cons_zero, List.set_cons_succ]
        refine wpAnyH_take (i := 5) (v := ?_) rfl (by kernel_rfl) (by kernel_rfl) (by kernel_rfl) (fun _ _ _ h => h) (Or.inl ⟨by rfl, ?_⟩) (by assumption) ?_
        rotate_left
        · intro wy hSw
          have hS0 := hSw
          go_simp
          try with_reducible rfl
        try simp only [Act.put, List.getElem_toArray, List.getElem_cons_succ, List.getElem_cons_zero, List.setIfInBounds_toArray, List.set_cons_zero, List.set_cons_succ]
        refine wpAnyH_ready (rs := [6]) (by kernel_rfl) (by simp) ?_
        refine AllReadyH.cons rfl (fun K hK => ?_) (AllReadyH.nil)
        go_simp
        obtain ⟨gy, eg⟩ : ∃ z, z = v41.heap.size := ⟨_, rfl⟩
        have hyl : gr < gy := by rw [eg]; exact (unhide HR).lt
        have hgy : g < gy := by rw [eg]; exact (unhide HT).lt
        obtain ⟨v614, ew⟩ : ∃ z, z = v41.alloc (.cells #[.int .i64 0, .slice none 0 0] 26) := ⟨_, rfl⟩
        have hb : Below v41.heap.size v41 v614 := by rw [ew]; exact Below.alloc1 _ _
        have hlv614 := Nat.le_trans hlv41 hb.size
        have HBX : Hid (OwnV v614 gy [.int .i64 0, .slice none 0 0]) := by rw [ew, eg]; exact ownV_alloc _ _ _
        rw [← ew, ← eg]
        replace HW := hide ((unhide HW).trans (kept_of_below hb))
        replace HC := hide ((unhide HC).below hb)
        replace HR := hide ((unhide HR).step hb)
        replace HT := hide ((unhide HT).step hb)
        clear hb ew eg
        refine hK.out _ _ ((unhide HR).cell (i := 0) rfl) (fun hHeld => ?_)
        clear hK K
        try simp only [Act.put, List.setIfInBounds_toArray, List.set_cons_zero, List.set_cons_succ]
        refine wpAnyH_ready (rs := [7]) (by kernel_rfl) (by simp) ?_
        refine AllReadyH.cons rfl (fun K hK => ?_) AllReadyH.nil
        have rf0 := (unhide HBX).frozen 0
        have rf1 := (unhide HBX).frozen 1
        have r0 := (unhide HBX).cell (i := 0) rfl
        have r1 := (unhide HBX).cell (i := 1) rfl
        have HBN := hide (((unhide HBX).set 0 (.int .i64 (1 + x)) (by simp)).set 1 (.slice (some ⟨g, 0, none⟩) k k) (by simp))
        have hKS := ((Kept.refl (fun b => b = gy) v614).setCell (p := ⟨gy, 0, none⟩) rfl (.int .i64 (1 + x))).setCell (p := ⟨gy, 1, none⟩) rfl (.slice (some ⟨g, 0, none⟩) k k)
        have HRN := hide ((unhide HR).kept hKS (fun e => by omega))
        have HTN := hide ((unhide HT).kept hKS (fun e => by omega))
        have HCN := hide ((unhide HC).kept hKS (fun b e => by omega))
        have HWN := hide (keptNew (unhide HW) hKS (fun b e => by omega))
        clear hKS
        go_simp
        clear rf0 rf1 r0 r1
        refine hK.out _ _ ((unhide HRN).cell (i := 0) rfl) (fun hHeld => ?_)
        clear hK K
        try simp only [Act.put, List.setIfInBounds_toArray, List.set_cons_zero, List.set_cons_succ]
        refine wpAnyH_done (by kernel_rfl) ?_ _
        go_wp2_with fail
        go_meet
        exact ⟨gy, g, 1 + x, rfl, by omega, by omega, by omega, by omega, by omega, by omega, HBN, HTN, HRN, HCN, HWN⟩
      · go_simp
        obtain ⟨gy, eg⟩ : ∃ z, z = v1.heap.size := ⟨_, rfl⟩
        have hyl : gr < gy := by rw [eg]; exact (unhide HR).lt
        obtain ⟨v61, ew⟩ : ∃ z, z = v1.alloc (.cells #[.int .i64 0, .slice none 0 0] 26) := ⟨_, rfl⟩
        have hb : Below v1.heap.size v1 v61 := by rw [ew]; exact Below.alloc1 _ _
        have hlv61 := Nat.le_trans hlv1 hb.size
        have HBX : Hid (OwnV v61 gy [.int .i64 0, .slice none 0 0]) := by rw [ew, eg]; exact ownV_alloc _ _ _
        rw [← ew, ← eg]
        replace HW := hide ((unhide HW).trans (kept_of_below hb))
        replace HC := hide ((unhide HC).below hb)
        replace HR := hide ((unhide HR).step hb)
        clear hb ew eg
        refine hK.out _ _ ((unhide HR).cell (i := 0) rfl) (fun hHeld => ?_)
        clear hK K
        try simp only [Act.put, List.setIfInBounds_toArray, List.set_cons_zero, List.set_cons_succ]
        refine wpAnyH_ready (rs := [4]) (by kernel_rfl) (by simp) ?_
        refine AllReadyH.cons rfl (fun K hK => ?_) (AllReadyH.nil)
        go_simp
        obtain ⟨g, eg⟩ : ∃ z, z = v61.heap.size := ⟨_, rfl⟩
        have hgl : gr < g := by rw [eg]; exact (unhide HR).lt
        have hgy : gy < g := by rw [eg]; exact (unhide HBX).lt
        obtain ⟨v416, ew⟩ : ∃ z, z = v61.alloc (.cells (madeCells #[.slice none 0 0] k) 30) := ⟨_, rfl⟩
        have hb : Below v61.heap.size v61 v416 := by rw [ew]; exact Below.alloc1 _ _
        have hlv416 := Nat.le_trans hlv61 hb.size
        have HT : Hid (OwnV v416 g (List.replicate k (.slice none 0 0))) := by rw [ew, eg, ← made_rows]; exact ownV_alloc _ _ _
        rw [← ew, ← eg]
        replace HW := hide ((unhide HW).trans (kept_of_below hb))
        replace HC := hide ((unhide HC).below hb)
        replace HR := hide ((unhide HR).step hb)
        replace HBX := hide ((unhide HBX).step hb)
        clear hb ew eg
        refine hK.out _ _ ((unhide HR).cell (i := 0) rfl) (fun hHeld => ?_)
        clear hK K
        try simp only [Act.put, List.setIfInBounds_toArray, List.set_cons_zero, List.set_cons_succ]
        refine wpAnyH_take (i := 5) (v := ?_) rfl (by kernel_rfl) (by kernel_rfl) (by kernel_rfl) (fun _ _ _ h => h) (Or.inl ⟨by rfl, ?_⟩) (by assumption) ?_
        rotate_left
        · intro wy hSw
          have hS0 := hSw
          go_simp
          try with_reducible rfl
        try simp only [Act.put, List.getElem_toArray, List.getElem_cons_succ, List.getElem_cons_zero, List.setIfInBounds_toArray, List.set_cons_zero, List.set_cons_succ]
        refine wpAnyH_ready (rs := [7]) (by kernel_rfl) (by simp) ?_
        refine AllReadyH.cons rfl (fun K hK => ?_) AllReadyH.nil
        have rf0 := (unhide HBX).frozen 0
        have rf1 := (unhide HBX).frozen 1
        have r0 := (unhide HBX).cell (i := 0) rfl
        have r1 := (unhide HBX).cell (i := 1) rfl
        have HBN := hide (((unhide HBX).set 0 (.int .i64 (1 + x)) (by simp)).set 1 (.slice (some ⟨g, 0, none⟩) k k) (by simp))
        have hKS := ((Kept.refl (fun b => b = gy) v416).setCell (p := ⟨gy, 0, none⟩) rfl (.int .i64 (1 + x))).setCell (p := ⟨gy, 1, none⟩) rfl (.slice (some ⟨g, 0, none⟩) k k)
        have HRN := hide ((unhide HR).kept hKS (fun e => by omega))
        have HTN := hide ((unhide HT).kept hKS (fun e => by omega))
        have HCN := hide ((unhide HC).kept hKS (fun b e => by omega))
        have HWN := hide (keptNew (unhide HW) hKS (fun b e => by omega))
        clear hKS
        go_simp
        clear rf0 rf1 r0 r1
        refine hK.out _ _ ((unhide HRN).cell (i := 0) rfl) (fun hHeld => ?_)
        clear hK K
        try simp only [Act.put, List.setIfInBounds_toArray, List.set_cons_zero, List.set_cons_succ]
        refine wpAnyH_done (by kernel_rfl) ?_ _
        go_wp2_with fail
        go_meet
        exact ⟨gy, g, 1 + x, rfl, by omega, by omega, by omega, by omega, by omega, by omega, HBN, HTN, HRN, HCN, HWN⟩
    · go_simp
      obtain ⟨g, eg⟩ : ∃ z, z = wd.heap.size := ⟨_, rfl⟩
      have hgl : gr < g := by rw [eg]; exact (unhide HR).lt
      obtain ⟨v4, ew⟩ : ∃ z, z = wd.alloc (.cells (madeCells #[.slice none 0 0] k) 30) := ⟨_, rfl⟩
      have hb : Below wd.heap.size wd v4 := by rw [ew]; exact Below.alloc1 _ _
      have hlv4 := Nat.le_trans hlwd hb.size
      have HT : Hid (OwnV v4 g (List.replicate k (.slice none 0 0))) := by rw [ew, eg, ← made_rows]; exact ownV_alloc _ _ _
      rw [← ew, ← eg]
      replace HW := hide ((unhide HW).trans (kept_of_below hb))
      replace HC := hide ((unhide HC).below hb)
      replace HR := hide ((unhide HR).step hb)
      clear hb ew eg
      refine hK.out _ _ ((unhide HR).cell (i := 0) rfl) (fun hHeld => ?_)
      clear hK K
      try simp only [Act.put, List.setIfInBounds_toArray, List.set_cons_zero, List.set_cons_succ]
      refine wpAnyH_ready (rs := [1, 6]) (by kernel_rfl) (by simp) ?_
      refine AllReadyH.cons rfl (fun K hK => ?_) (AllReadyH.cons rfl (fun K hK => ?_) (AllReadyH.nil))
      · go_simp
        have HCQ := hide (l1BelowV_any cb n v 4 v4 (unhide HC) hn (by omega) (by omega))
        refine (unhide HCQ).mono ?_
        rintro e v14 ⟨x, rfl, hx0, hx1, hC, hk⟩
        have hlv14 := Nat.le_trans hlv4 hk.size
        replace HW := hide ((unhide HW).trans hk)
        replace HR := hide ((unhide HR).kept hk (fun e => by omega))
        replace HT := hide ((unhide HT).kept hk (fun e => by omega))
        replace HC := hide hC
        clear hC hk HCQ
        have hxw : IntKind.i64.wrap (1 + x) = 1 + x := by rw [IntKind.wrap_i64]; omega
        refine hK.out _ _ ((unhide HR).cell (i := 0) rfl) (fun hHeld => ?_)
        clear hK K
        try simp only [Act.put, List.setIfInBounds_toArray, List.set_cons_zero, List.set_cons_succ]
        refine wpAnyH_take (i := 2) (v := ?_) rfl (by kernel_rfl) (by kernel_rfl) (by kernel_rfl) (fun _ _ _ h => h) (Or.inl ⟨by rfl, ?_⟩) (by assumption) ?_
        rotate_left
        · intro wy hSw
          have hS0 := hSw
          go_simp
          try with_reducible rfl
        try simp only [Act.put, List.getElem_toArray, List.getElem_cons_succ, List.getElem_cons_zero, List.setIfInBounds_toArray, List.set_cons_zero, List.set_cons_succ]
        refine wpAnyH_take (i := 5) (v := ?_) rfl (by kernel_rfl) (by kernel_rfl) (by kernel_rfl) (fun _ _ _ h => h) (Or.inl ⟨by rfl, ?_⟩) (by assumption) ?_
        rotate_left
        · intro wy hSw
          have hS0 := hSw
          go_simp
          try with_reducible rfl
        try simp only [Act.put, List.getElem_toArray, List.getElem_cons_succ, List.getElem_cons_zero, List.setIfInBounds_toArray, List.set_cons_zero, List.set_cons_succ]
        refine wpAnyH_ready (rs := [6]) (by kernel_rfl) (by simp) ?_
        refine AllReadyH.cons rfl (fun K hK => ?_) (AllReadyH.nil)
        go_simp
        obtain ⟨gy, eg⟩ : ∃ z, z = v14.heap.size := ⟨_, rfl⟩
        have hyl : gr < gy := by rw [eg]; exact (unhide HR).lt
        have hgy : g < gy := by rw [eg]; exact (unhide HT).lt
        obtain ⟨v641, ew⟩ : ∃ z, z = v14.alloc (.cells #[.int .i64 0, .slice none 0 0] 26) := ⟨_, rfl⟩
        have hb : Below v14.heap.size v14 v641 := by rw [ew]; exact Below.alloc1 _ _
        have hlv641 := Nat.le_trans hlv14 hb.size
        have HBX : Hid (OwnV v641 gy [.int .i64 0, .slice none 0 0]) := by rw [ew, eg]; exact ownV_alloc _ _ _
        rw [← ew, ← eg]
        replace HW := hide ((unhide HW).trans (kept_of_below hb))
        replace HC := hide ((unhide HC).below hb)
        replace HR := hide ((unhide HR).step hb)
        replace HT := hide ((unhide HT).step hb)
        clear hb ew eg
        refine hK.out _ _ ((unhide HR).cell (i := 0) rfl) (fun hHeld => ?_)
        clear hK K
        try simp only [Act.put, List.setIfInBounds_toArray, List.set_cons_zero, List.set_cons_succ]
        refine wpAnyH_ready (rs := [7]) (by kernel_rfl) (by simp) ?_
        refine AllReadyH.cons rfl (fun K hK => ?_) AllReadyH.nil
        have rf0 := (unhide HBX).frozen 0
        have rf1 := (unhide HBX).frozen 1
        have r0 := (unhide HBX).cell (i := 0) rfl
        have r1 := (unhide HBX).cell (i := 1) rfl
        have HBN := hide (((unhide HBX).set 0 (.int .i64 (1 + x)) (by simp)).set 1 (.slice (some ⟨g, 0, none⟩) k k) (by simp))
        have hKS := ((Kept.refl (fun b => b = gy) v641).setCell (p := ⟨gy, 0, none⟩) rfl (.int .i64 (1 + x))).setCell (p := ⟨gy, 1, none⟩) rfl (.slice (some ⟨g, 0, none⟩) k k)
        have HRN := hide ((unhide HR).kept hKS (fun e => by omega))
        have HTN := hide ((unhide HT).kept hKS (fun e => by omega))
        have HCN := hide ((unhide HC).kept hKS (fun b e => by omega))
        have HWN := hide (keptNew (unhide HW) hKS (fun b e => by omega))
        clear hKS
        go_simp
        clear rf0 rf1 r0 r1
        refine hK.out _ _ ((unhide HRN).cell (i := 0) rfl) (fun hHeld => ?_)
        clear hK K
        try simp only [Act.put, List.setIfInBounds_toArray, List.set_cons_zero, List.set_cons_succ]
        refine wpAnyH_done (by kernel_rfl) ?_ _
        go_wp2_with fail
        go_meet
        exact ⟨gy, g, 1 + x, rfl, by omega, by omega, by omega, by omega, by omega, by omega, HBN, HTN, HRN, HCN, HWN⟩
      · go_simp
        obtain ⟨gy, eg⟩ : ∃ z, z = v4.heap.size := ⟨_, rfl⟩
        have hyl : gr < gy := by rw [eg]; exact (unhide HR).lt
        have hgy : g < gy := by rw [eg]; exact (unhide HT).lt
        obtain ⟨v64, ew⟩ : ∃ z, z = v4.alloc (.cells #[.int .i64 0, .slice none 0 0] 26) := ⟨_, rfl⟩
        have hb : Below v4.heap.size v4 v64 := by rw [ew]; exact Below.alloc1 _ _
        have hlv64 := Nat.le_trans hlv4 hb.size
        have HBX : Hid (OwnV v64 gy [.int .i64 0, .slice none 0 0]) := by rw [ew, eg]; exact ownV_alloc _ _ _
        rw [← ew, ← eg]
        replace HW := hide ((unhide HW).trans (kept_of_below hb))
        replace HC := hide ((unhide HC).below hb)
        replace HR := hide ((unhide HR).step hb)
        replace HT := hide ((unhide HT).step hb)
        clear hb ew eg
        refine hK.out _ _ ((unhide HR).cell (i := 0) rfl) (fun hHeld => ?_)
        clear hK K
        try simp only [Act.put, List.setIfInBounds_toArray, List.set_cons_zero, List.set_cons_succ]
        refine wpAnyH_ready (rs := [1]) (by kernel_rfl) (by simp) ?_
        refine AllReadyH.cons rfl (fun K hK => ?_) (AllReadyH.nil)
        go_simp
        have HCQ := hide (l1BelowV_any cb n v 4 v64 (unhide HC) hn (by omega) (by omega))
        refine (unhide HCQ).mono ?_
        rintro e v146 ⟨x, rfl, hx0, hx1, hC, hk⟩
        have hlv146 := Nat.le_trans hlv64 hk.size
        replace HW := hide ((unhide HW).trans hk)
        replace HR := hide ((unhide HR).kept hk (fun e => by omega))
        replace HT := hide ((unhide HT).kept hk (fun e => by omega))
        replace HBX := hide ((unhide HBX).kept hk (fun e => by omega))
        replace HC := hide hC
        clear hC hk HCQ
        have hxw : IntKind.i64.wrap (1 + x) = 1 + x := by rw [IntKind.wrap_i64]; omega
        refine hK.out _ _ ((unhide HR).cell (i := 0) rfl) (fun hHeld => ?_)
        clear hK K
        try simp only [Act.put, List.setIfInBounds_toArray, List.set_cons_zero, List.set_cons_succ]
        refine wpAnyH_take (i := 2) (v := ?_) rfl (by kernel_rfl) (by kernel_rfl) (by kernel_rfl) (fun _ _ _ h => h) (Or.inl ⟨by rfl, ?_⟩) (by assumption) ?_
        rotate_left
        · intro wy hSw
          have hS0 := hSw
          go_simp
          try with_reducible rfl
        try simp only [Act.put, List.getElem_toArray, List.getElem_cons_succ, List.getElem_cons_zero, List.setIfInBounds_toArray, List.set_cons_zero, List.set_cons_succ]
        refine wpAnyH_take (i := 5) (v := ?_) rfl (by kernel_rfl) (by kernel_rfl) (by kernel_rfl) (fun _ _ _ h => h) (Or.inl ⟨by rfl, ?_⟩) (by assumption) ?_
        rotate_left
        · intro wy hSw
          have hS0 := hSw
          go_simp
          try with_reducible rfl
        try simp only [Act.put, List.getElem_toArray, List.getElem_cons_succ, List.getElem_cons_zero, List.setIfInBounds_toArray, List.set_cons_zero, List.set_cons_succ]
        refine wpAnyH_ready (rs := [7]) (by kernel_rfl) (by simp) ?_
        refine AllReadyH.cons rfl (fun K hK => ?_) AllReadyH.nil
        have rf0 := (unhide HBX).frozen 0
        have rf1 := (unhide HBX).frozen 1
        have r0 := (unhide HBX).cell (i := 0) rfl
        have r1 := (unhide HBX).cell (i := 1) rfl
        have HBN := hide (((unhide HBX).set 0 (.int .i64 (1 + x)) (by simp)).set 1 (.slice (some ⟨g, 0, none⟩) k k) (by simp))
        have hKS := ((Kept.refl (fun b => b = gy) v146).setCell (p := ⟨gy, 0, none⟩) rfl (.int .i64 (1 + x))).setCell (p := ⟨gy, 1, none⟩) rfl (.slice (some ⟨g, 0, none⟩) k k)
        have HRN := hide ((unhide HR).kept hKS (fun e => by omega))
        have HTN := hide ((unhide HT).kept hKS (fun e => by omega))
        have HCN := hide ((unhide HC).kept hKS (fun b e => by omega))
        have HWN := hide (keptNew (unhide HW) hKS (fun b e => by omega))
        clear hKS
        go_simp
        clear rf0 rf1 r0 r1
        refine hK.out _ _ ((unhide HRN).cell (i := 0) rfl) (fun hHeld => ?_)
        clear hK K
        try simp only [Act.put, List.setIfInBounds_toArray, List.set_cons_zero, List.set_cons_succ]
        refine wpAnyH_done (by kernel_rfl) ?_ _
        go_wp2_with fail
        go_meet
        exact ⟨gy, g, 1 + x, rfl, by omega, by omega, by omega, by omega, by omega, by omega, HBN, HTN, HRN, HCN, HWN⟩
    · go_simp
      obtain ⟨gy, eg⟩ : ∃ z, z = wd.heap.size := ⟨_, rfl⟩
      have hyl : gr < gy := by rw [eg]; exact (unhide HR).lt
      obtain ⟨v6, ew⟩ : ∃ z, z = wd.alloc (.cells #[.int .i64 0, .slice none 0 0] 26) := ⟨_, rfl⟩
      have hb : Below wd.heap.size wd v6 := by rw [ew]; exact Below.alloc1 _ _
      have hlv6 := Nat.le_trans hlwd hb.size
      have HBX : Hid (OwnV v6 gy [.int .i64 0, .slice none 0 0]) := by rw [ew, eg]; exact ownV_alloc _ _ _
      rw [← ew, ← eg]
      replace HW := hide ((unhide HW).trans (kept_of_below hb))
      replace HC := hide ((unhide HC).below hb)
      replace HR := hide ((unhide HR).step hb)
      clear hb ew eg
      refine hK.out _ _ ((unhide HR).cell (i := 0) rfl) (fun hHeld => ?_)
      clear hK K
      try simp only [Act.put, List.setIfInBounds_toArray, List.set_cons_zero, List.set_cons_succ]
      refine wpAnyH_ready (rs := [1, 4]) (by kernel_rfl) (by simp) ?_
      refine AllReadyH.cons rfl (fun K hK => ?_) (AllReadyH.cons rfl (fun K hK => ?_) (AllReadyH.nil))
      · go_simp
        have HCQ := hide (l1BelowV_any cb n v 4 v6 (unhide HC) hn (by omega) (by omega))
        refine (unhide HCQ).mono ?_
        rintro e v16 ⟨x, rfl, hx0, hx1, hC, hk⟩
        have hlv16 := Nat.le_trans hlv6 hk.size
        replace HW := hide ((unhide HW).trans hk)
        replace HR := hide ((unhide HR).kept hk (fun e => by omega))
        replace HBX := hide ((unhide HBX).kept hk (fun e => by omega))
        replace HC := hide hC
        clear hC hk HCQ
        have hxw : IntKind.i64.wrap (1 + x) = 1 + x := by rw [IntKind.wrap_i64]; omega
        refine hK.out _ _ ((unhide HR).cell (i := 0) rfl) (fun hHeld => ?_)
        clear hK K
        try simp only [Act.put, List.setIfInBounds_toArray, List.set_cons_zero, List.set_cons_succ]
        refine wpAnyH_take (i := 2) (v := ?_) rfl (by kernel_rfl) (by kernel_rfl) (by kernel_rfl) (fun _ _ _ h => h) (Or.inl ⟨by rfl, ?_⟩) (by assumption) ?_
        rotate_left
        · intro wy hSw
          have hS0 := hSw
          go_simp
          try with_reducible rfl
        try simp only [Act.put, List.getElem_toArray, List.getElem_cons_succ, List.getElem_cons_zero, List.setIfInBounds_toArray, List.set_cons_zero, List.set_cons_succ]
        refine wpAnyH_ready (rs := [4]) (by kernel_rfl) (by simp) ?_
        refine AllReadyH.cons rfl (fun K hK => ?_) (AllReadyH.nil)
        go_simp
        obtain ⟨g, eg⟩ : ∃ z, z = v16.heap.size := ⟨_, rfl⟩
        have hgl : gr < g := by rw [eg]; exact (unhide HR).lt
        have hgy : gy < g := by rw [eg]; exact (unhide HBX).lt
        obtain ⟨v461, ew⟩ : ∃ z, z = v16.alloc (.cells (madeCells #[.slice none 0 0] k) 30) := ⟨_, rfl⟩
        have hb : Below v16.heap.size v16 v461 := by rw [ew]; exact Below.alloc1 _ _
        have hlv461 := Nat.le_trans hlv16 hb.size
        have HT : Hid (OwnV v461 g (List.replicate k (.slice none 0 0))) := by rw [ew, eg, ← made_rows]; exact ownV_alloc _ _ _
        rw [← ew, ← eg]
        replace HW := hide ((unhide HW).trans (kept_of_below hb))
        replace HC := hide ((unhide HC).below hb)
        replace HR := hide ((unhide HR).step hb)
        replace HBX := hide ((unhide HBX).step hb)
        clear hb ew eg
        refine hK.out _ _ ((unhide HR).cell (i := 0) rfl) (fun hHeld => ?_)
        clear hK K
        try simp only [Act.put, List.setIfInBounds_toArray, List.set_cons_zero, List.set_cons_succ]
        refine wpAnyH_take (i := 5) (v := ?_) rfl (by kernel_rfl) (by kernel_rfl) (by kernel_rfl) (fun _ _ _ h => h) (Or.inl ⟨by rfl, ?_⟩) (by assumption) ?_
        rotate_left
        · intro wy hSw
          have hS0 := hSw
          go_simp
          try with_reducible rfl
        try simp only [Act.put, List.getElem_toArray, List.getElem_cons_succ, List.getElem_cons_zero, List.setIfInBounds_toArray, List.set_cons_zero, List.set_cons_succ]
        refine wpAnyH_ready (rs := [7]) (by kernel_rfl) (by simp) ?_
        refine AllReadyH.cons rfl (fun K hK => ?_) AllReadyH.nil
        have rf0 := (unhide HBX).frozen 0
        have rf1 := (unhide HBX).frozen 1
        have r0 := (unhide HBX).cell (i := 0) rfl
        have r1 := (unhide HBX).cell (i := 1) rfl
        have HBN := hide (((unhide HBX).set 0 (.int .i64 (1 + x)) (by simp)).set 1 (.slice (some ⟨g, 0, none⟩) k k) (by simp))
        have hKS := ((Kept.refl (fun b => b = gy) v461).setCell (p := ⟨gy, 0, none⟩) rfl (.int .i64 (1 + x))).setCell (p := ⟨gy, 1, none⟩) rfl (.slice (some ⟨g, 0, none⟩) k k)
        have HRN := hide ((unhide HR).kept hKS (fun e => by omega))
        have HTN := hide ((unhide HT).kept hKS (fun e => by omega))
        have HCN := hide ((unhide HC).kept hKS (fun b e => by omega))
        have HWN := hide (keptNew (unhide HW) hKS (fun b e => by omega))
        clear hKS
        go_simp
        clear rf0 rf1 r0 r1
        refine hK.out _ _ ((unhide HRN).cell (i := 0) rfl) (fun hHeld => ?_)
        clear hK K
        try simp only [Act.put, List.setIfInBounds_toArray, List.set_cons_zero, List.set_cons_succ]
        refine wpAnyH_done (by kernel_rfl) ?_ _
        go_wp2_with fail
        go_meet
        exact ⟨gy, g, 1 + x, rfl, by omega, by omega, by omega, by omega, by omega, by omega, HBN, HTN, HRN, HCN, HWN⟩
      · go_simp
        obtain ⟨g, eg⟩ : ∃ z, z = v6.heap.size := ⟨_, rfl⟩
        have hgl : gr < g := by rw [eg]; exact (unhide HR).lt
        have hgy : gy < g := by rw [eg]; exact (unhide HBX).lt
        obtain ⟨v46, ew⟩ : ∃ z, z = v6.alloc (.cells (madeCells #[.slice none 0 0] k) 30) := ⟨_, rfl⟩
        have hb : Below v6.heap.size v6 v46 := by rw [ew]; exact Below.alloc1 _ _
        have hlv46 := Nat.le_trans hlv6 hb.size
        have HT : Hid (OwnV v46 g (List.replicate k (.slice none 0 0))) := by rw [ew, eg, ← made_rows]; exact ownV_alloc _ _ _
        rw [← ew, ← eg]
        replace HW := hide ((unhide HW).trans (kept_of_below hb))
        replace HC := hide ((unhide HC).below hb)
        replace HR := hide ((unhide HR).step hb)
        replace HBX := hide ((unhide HBX).step hb)
        clear hb ew eg
        refine hK.out _ _ ((unhide HR).cell (i := 0) rfl) (fun hHeld => ?_)
        clear hK K
        try simp only [Act.put, List.setIfInBounds_toArray, List.set_cons_zero, List.set_cons_succ]
        refine wpAnyH_ready (rs := [1]) (by kernel_rfl) (by simp) ?_
        refine AllReadyH.cons rfl (fun K hK => ?_) (AllReadyH.nil)
        go_simp
        have HCQ := hide (l1BelowV_any cb n v 4 v46 (unhide HC) hn (by omega) (by omega))
        refine (unhide HCQ).mono ?_
        rintro e v164 ⟨x, rfl, hx0, hx1, hC, hk⟩
        have hlv164 := Nat.le_trans hlv46 hk.size
        replace HW := hide ((unhide HW).trans hk)
        replace HR := hide ((unhide HR).kept hk (fun e => by omega))
        replace HT := hide ((unhide HT).kept hk (fun e => by omega))
        replace HBX := hide ((unhide HBX).kept hk (fun e => by omega))
        replace HC := hide hC
        clear hC hk HCQ
        have hxw : IntKind.i64.wrap (1 + x) = 1 + x := by rw [IntKind.wrap_i64]; omega
        refine hK.out _ _ ((unhide HR).cell (i := 0) rfl) (fun hHeld => ?_)
        clear hK K
        try simp only [Act.put, List.setIfInBounds_toArray, List.set_cons_zero, List.set_cons_succ]
        refine wpAnyH_take (i := 2) (v := ?_) rfl (by kernel_rfl) (by kernel_rfl) (by kernel_rfl) (fun _ _ _ h => h) (Or.inl ⟨by rfl, ?_⟩) (by assumption) ?_
        rotate_left
        · intro wy hSw
          have hS0 := hSw
          go_simp
          try with_reducible rfl
        try simp only [Act.put, List.getElem_toArray, List.getElem_cons_succ, List.getElem_cons_zero, List.setIfInBounds_toArray, List.set_cons_zero, List.set_cons_succ]
        refine wpAnyH_take (i := 5) (v := ?_) rfl (by kernel_rfl) (by kernel_rfl) (by kernel_rfl) (fun _ _ _ h => h) (Or.inl ⟨by rfl, ?_⟩) (by assumption) ?_
        rotate_left
        · intro wy hSw
          have hS0 := hSw
          go_simp
          try with_reducible rfl
        try simp only [Act.put, List.getElem_toArray, List.getElem_cons_succ, List.getElem_cons_zero, List.setIfInBounds_toArray, List.set_cons_zero, List.set_cons_succ]
        refine wpAnyH_ready (rs := [7]) (by kernel_rfl) (by simp) ?_
        refine AllReadyH.cons rfl (fun K hK => ?_) AllReadyH.nil
        have rf0 := (unhide HBX).frozen 0
        have rf1 := (unhide HBX).frozen 1
        have r0 := (unhide HBX).cell (i := 0) rfl
        have r1 := (unhide HBX).cell (i := 1) rfl
        have HBN := hide (((unhide HBX).set 0 (.int .i64 (1 + x)) (by simp)).set 1 (.slice (some ⟨g, 0, none⟩) k k) (by simp))
        have hKS := ((Kept.refl (fun b => b = gy) v164).setCell (p := ⟨gy, 0, none⟩) rfl (.int .i64 (1 + x))).setCell (p := ⟨gy, 1, none⟩) rfl (.slice (some ⟨g, 0, none⟩) k k)
        have HRN := hide ((unhide HR).kept hKS (fun e => by omega))
        have HTN := hide ((unhide HT).kept hKS (fun e => by omega))
        have HCN := hide ((unhide HC).kept hKS (fun b e => by omega))
        have HWN := hide (keptNew (unhide HW) hKS (fun b e => by omega))
        clear hKS
        go_simp
        clear rf0 rf1 r0 r1
        refine hK.out _ _ ((unhide HRN).cell (i := 0) rfl) (fun hHeld => ?_)
        clear hK K
        try simp only [Act.put, List.setIfInBounds_toArray, List.set_cons_zero, List.set_cons_succ]
        refine wpAnyH_done (by kernel_rfl) ?_ _
        go_wp2_with fail
        go_meet
        exact ⟨gy, g, 1 + x, rfl, by omega, by omega, by omega, by omega, by omega, by omega, HBN, HTN, HRN, HCN, HWN⟩
  case rest =>
    clear HR HW HC hmk
    obtain ⟨gy, g, H, rfl, hne, hgy, hgg, hH1, hH2, hgw, HBX, HT, HR, HC, HW⟩ := hcut
    obtain ⟨B, eB⟩ : ∃ z, z = wc.heap.size := ⟨_, rfl⟩
    have hgB : g < B := by rw [eB]; exact (unhide HT).lt
    have hyB : gy < B := by rw [eB]; exact (unhide HBX).lt
    have hcg : cb < gr := by omega
    have HY := hide (yr_new wc B g k (unhide HT) hgB)
    have HO := hide (yok_new (H := H) (n := k) hH1 (by omega) hk0 hk1)
    have hBs : B ≤ wc.heap.size := by omega
    clear HT eB
    obtain ⟨R0, eR0⟩ : ∃ z, z = List.replicate k ([] : List Int) := ⟨_, rfl⟩
    have hR0 : R0.length = k := by rw [eR0]; simp
    have HX0 : Hid (∀ x ∈ R0.flatten, x ≤ 0) := by show ∀ _, _; rw [eR0]; simp
    rw [← eR0] at HY HO
    obtain ⟨A0, eA0⟩ : ∃ z : Nat → Option Nat, z = fun _ => none := ⟨_, rfl⟩
    obtain ⟨C0, eC0⟩ : ∃ z : Nat → Nat, z = fun _ => 0 := ⟨_, rfl⟩
    rw [← eA0, ← eC0] at HY
    clear eR0 eA0 eC0
    go_wp2
    go_loopg [8, 9] m (fun gg bv iv wr => ∃ (i : Nat) (box : Int) (A : Nat → Option Nat) (C : Nat → Nat) (R : List (List Int)), i ≤ m ∧ gg = m - i ∧ bv = .int .i64 box ∧ iv = .int .i64 i ∧ 0 ≤ box ∧ box ≤ 2 * i ∧ R.length = k ∧ B ≤ wr.heap.size ∧ Hid (YR wr B g A C R) ∧ Hid (YOk H R) ∧ Hid (∀ x ∈ R.flatten, x ≤ box) ∧ Hid (OwnV wr gy [.int .i64 H, .slice (some ⟨g, 0, none⟩) k k]) ∧ Hid (OwnV wr gr [.int .i64 0, .slice none 0 0]) ∧ Hid (Cur wr cb v n) ∧ Hid (Kept (fun b => b = cb) w wr))
    case atStart => exact ⟨0, 0, A0, C0, R0, Nat.zero_le _, rfl, rfl, rfl, by omega, by omega, hR0, hBs, HY, HO, HX0, HBX, HR, HC, HW⟩
    case round =>
      clear HY HO HX0 HBX HR HC HW hBs hR0
      obtain ⟨i, box, A, C, R, hi, rfl, rfl, rfl, hb0, hb1, hRk, hBs, HY, HO, HX, HBX, HR, HC, HW⟩ := hrel
      by_cases him : i < m
      case neg =>
        have hii : ¬ (i : Int) < m := by omega
        replace HX : Hid (∀ x ∈ R.flatten, x ≤ 2 * (m : Int)) := fun x hx => by have := unhide HX x hx; omega
        go_wp2
        go_loopg [11] k (fun gg sv wr => ∃ (s : Nat) (R' : List (List Int)), s ≤ k ∧ gg = k - s ∧ sv = .int .i64 s ∧ R'.length = k ∧ B ≤ wr.heap.size ∧ Hid (YR wr B g A C R') ∧ Hid (YOk H R') ∧ Hid (∀ x ∈ R'.flatten, x ≤ 2 * (m : Int)) ∧ Hid (OwnV wr gy [.int .i64 H, .slice (some ⟨g, 0, none⟩) k k]) ∧ Hid (OwnV wr gr [.int .i64 0, .slice none 0 0]) ∧ Hid (Cur wr cb v n) ∧ Hid (Kept (fun b => b = cb) w wr))
        case atStart => exact ⟨0, R, Nat.zero_le _, rfl, rfl, hRk, hBs, HY, HO, HX, HBX, HR, HC, HW⟩
        case round =>
          clear HY HO HX HBX HR HC HW hBs hRk
          obtain ⟨s, R', hs, rfl, rfl, hRk, hBs, HY, HO, HX, HBX, HR, HC, HW⟩ := hrel
          by_cases hsk : s < k
          case neg =>
            have hsi : ¬ (s : Int) < k := by omega
            have y0 := (unhide HBX).cell (i := 0) rfl
            have y1 := (unhide HBX).cell (i := 1) rfl
            have r0 := (unhide HR).cell (i := 0) rfl
            have r1 := (unhide HR).cell (i := 1) rfl
            have rf := (unhide HR).frozen
            have HN := hide (((unhide HR).set 0 (.int .i64 H) (by simp)).set 1 (.slice (some ⟨g, 0, none⟩) k k) (by simp))
            have hKS := ((Kept.refl (fun b => b = gr) wr).setCell (p := ⟨gr, 0, none⟩) rfl (.int .i64 H)).setCell (p := ⟨gr, 1, none⟩) rfl (.slice (some ⟨g, 0, none⟩) k k)
            have HYN := hide ((unhide HY).kept hKS (fun e => by omega) (fun b h1 _ e => by omega))
            have HCN := hide ((unhide HC).kept hKS (fun b e => by omega))
            have HWN := hide (keptNew (unhide HW) hKS (fun b e => by omega))
            have HRK := hide hRk
            have HBN := hide (Nat.le_trans hBs hKS.size)
            clear hKS HY HC HW HR HBX hRk
            go_wp2
            have k0 := (unhide HN).cell (i := 0) rfl
            have k1 := (unhide HN).cell (i := 1) rfl
            refine bodyPost_ret (v := .agg #[.int .i64 H, .slice (some ⟨g, 0, none⟩) k k]) (by simp [results, Try.results42, go_sem, k0, k1]) rfl ⟨H, g, rfl, B, A, C, R', HYN, HO, unhide HRK, HX, hgw, unhide HBN, unhide HCN, unhide HWN⟩
          have hsi : (s : Int) < k := by omega
          obtain ⟨ml, hml0⟩ : ∃ z, z = (R'.getD s []).length := ⟨_, rfl⟩
          have hlow := (unhide HO).low s (by omega)
          rw [← hml0] at hlow
          have HML0 := hide hml0.symm
          clear hml0
          go_wp2
          go_loopg [12] ml (fun gg tv wr => ∃ (t : Nat) (R' : List (List Int)), t ≤ ml ∧ gg = ml - t ∧ tv = .int .i64 t ∧ (R'.getD s []).length = ml ∧ R'.length = k ∧ B ≤ wr.heap.size ∧ Hid (YR wr B g A C R') ∧ Hid (YOk H R') ∧ Hid (∀ x ∈ R'.flatten, x ≤ 2 * (m : Int)) ∧ Hid (OwnV wr gy [.int .i64 H, .slice (some ⟨g, 0, none⟩) k k]) ∧ Hid (OwnV wr gr [.int .i64 0, .slice none 0 0]) ∧ Hid (Cur wr cb v n) ∧ Hid (Kept (fun b => b = cb) w wr))
          case atStart => exact ⟨0, R', Nat.zero_le _, rfl, rfl, unhide HML0, hRk, hBs, HY, HO, HX, HBX, HR, HC, HW⟩
          case round =>
            clear HY HO HX HBX HR HC HW hBs hRk HML0
            obtain ⟨t, R', ht, rfl, rfl, hml, hRk, hBs, HY, HO, HX, HBX, HR, HC, HW⟩ := hrel
            have hsR : s < R'.length := by omega
            have y1 := (unhide HBX).cell (i := 1) rfl
            have ts := (unhide HY).cell hsR
            unfold sltV at ts
            rw [hml] at ts
            by_cases htm : t < ml
            case neg =>
              have hti : ¬ (t : Int) < ml := by omega
              obtain ⟨ao, eao⟩ : ∃ z, z = (A s).map fun b => (⟨b, 0, none⟩ : Addr) := ⟨_, rfl⟩
              rw [← eao] at ts
              have HRK := hide hRk
              clear eao hml hRk
              go_wp2
              go_roundg (k - (s + 1))
              case measure => omega
              case rel => exact ⟨s + 1, R', by omega, rfl, by go_num, unhide HRK, hBs, HY, HO, HX, HBX, HR, HC, HW⟩
            have hti : (t : Int) < ml := by omega
            obtain ⟨b, hA, hO, hcl, hcm⟩ := (unhide HY).some hsR (by omega)
            rw [hA] at ts
            dsimp only [Option.map] at ts
            have hw1 : IntKind.i64.wrap ((t : Int) + 1) = (t : Int) + 1 := by rw [IntKind.wrap_i64]; omega
            have HQ := hide (l1BelowV_any cb n v ((t : Int) + 1) wr (unhide HC) hn (by omega) (by omega))
            have HRK := hide hRk
            have HML := hide hml
            have HA := hide hA
            clear hO hcl hml hRk hA
            go_wp2_with fail
            refine (unhide HQ).mono ?_
            rintro e w2 ⟨kx, rfl, hk0', hk1', hC, hk⟩
            replace HY := hide ((unhide HY).kept hk (fun e => by omega) (fun b h1 h2 e => by omega))
            replace HBX := hide ((unhide HBX).kept hk (fun e => by omega))
            replace HR := hide ((unhide HR).kept hk (fun e => by omega))
            replace HW := hide ((unhide HW).trans hk)
            replace HC := hide hC
            have hBs2 := Nat.le_trans hBs hk.size
            clear hC hk HQ y1 ts hBs
            obtain ⟨kk, rfl⟩ : ∃ z : Nat, kx = (z : Int) := ⟨kx.toNat, by omega⟩
            have hkm : kk < ml := by omega
            have hkmi : (kk : Int) < ml := by omega
            have y1 := (unhide HBX).cell (i := 1) rfl
            have ts := (unhide HY).cell hsR
            unfold sltV at ts
            rw [unhide HML, unhide HA] at ts
            dsimp only [Option.map] at ts
            obtain ⟨b', hA', hO, hcl, hcm'⟩ := (unhide HY).some hsR (by rw [unhide HML]; omega)
            obtain rfl : b = b' := by rw [unhide HA] at hA'; cases hA'; rfl
            rw [unhide HML] at hcl
            have ct := hO.cell (ints_get _ (i := t) (by rw [unhide HML]; exact htm))
            obtain ⟨rt, ert⟩ : ∃ z, z = (R'.getD s []).getD t 0 := ⟨_, rfl⟩
            rw [← ert] at ct
            have HRT := hide ert
            clear hA' hO ert hcm'
            go_upto_region 18 with (fail)
            clear ct y1 ts
            have hA := unhide HA
            have hml := unhide HML
            obtain ⟨wd, ewd⟩ : ∃ z, z = w2.drew := ⟨_, rfl⟩
            have hb : Below w2.heap.size w2 wd := by rw [ewd]; exact (Below.refl _ _).drew
            have hBd := Nat.le_trans hBs2 hb.size
            replace HY := hide ((unhide HY).below hb)
            replace HBX := hide ((unhide HBX).step hb)
            replace HR := hide ((unhide HR).step hb)
            replace HC := hide ((unhide HC).below hb)
            replace HW := hide ((unhide HW).trans (kept_of_below hb))
            clear hb
            have tsd := (unhide HY).cell hsR
            unfold sltV at tsd
            rw [hA, hml] at tsd
            dsimp only [Option.map] at tsd
            have tyd := (unhide HBX).cell (i := 1) rfl
            obtain ⟨b', hA', hO', hcl', hcm'⟩ := (unhide HY).some hsR (by omega)
            obtain rfl : b = b' := by rw [hA] at hA'; cases hA'; rfl
            have ck := hO'.cell (ints_get _ (i := kk) (by omega))
            have ct := hO'.cell (ints_get _ (i := t) (by omega))
            have cf := hO'.frozen t
            obtain ⟨rk, erk⟩ : ∃ z, z = (R'.getD s []).getD kk 0 := ⟨_, rfl⟩
            rw [← erk] at ck
            have HRKK := hide erk
            clear erk
            refine wp_region_held_drew (S := fun w' => w'.cell? ⟨gy, 1, none⟩ = some (.slice (some ⟨g, 0, none⟩) k k) ∧ w'.cell? ⟨g, s, none⟩ = some (.slice (some ⟨b, 0, none⟩) ml (C s))) (by kernel_rfl) ⟨by rw [← ewd]; exact tyd, by rw [← ewd]; exact tsd⟩ (fun hHeld => ?_)
            rw [← ewd] at hHeld ⊢
            clear ewd
            refine wpAnyH_take (i := 0) (v := ?_) rfl (by kernel_rfl) (by kernel_rfl) (by kernel_rfl) (fun _ _ _ h => h) (Or.inl ⟨by rfl, ?_⟩) (by assumption) ?_
            rotate_left
            · intro wy hSw
              obtain ⟨hS0, hS1⟩ := hSw
              go_simp
              try with_reducible rfl
            try simp only [Act.put, List.getElem_toArray, List.getElem_cons_zero, List.setIfInBounds_toArray, List.set_cons_zero, List.set_cons_succ]
            refine wpAnyH_take (i := 1) (v := ?_) rfl (by kernel_rfl) (by kernel_rfl) (by kernel_rfl) (fun _ _ _ h => h) (Or.inl ⟨by rfl, ?_⟩) (by assumption) ?_
            rotate_left
            · intro wy hSw
              obtain ⟨hS0, hS1⟩ := hSw
              go_simp
              try with_reducible rfl
            try simp only [Act.put, List.getElem_toArray, List.getElem_cons_succ, List.getElem_cons_zero, List.setIfInBounds_toArray, List.set_cons_zero, List.set_cons_succ]
            refine wpAnyH_take (i := 2) (v := ?_) rfl (by kernel_rfl) (by kernel_rfl) (by kernel_rfl) (fun _ _ _ h => h) (Or.inl ⟨by rfl, ?_⟩) (by assumption) ?_
            rotate_left
            · intro wy hSw
              obtain ⟨hS0, hS1⟩ := hSw
              go_simp
              try with_reducible rfl
            try simp only [Act.put, List.getElem_toArray, List.getElem_cons_succ, List.getElem_cons_zero, List.setIfInBounds_toArray, List.set_cons_zero, List.set_cons_succ]
            refine wpAnyH_take (i := 3) (v := ?_) rfl (by kernel_rfl) (by kernel_rfl) (by kernel_rfl) (fun _ _ _ h => h) (Or.inl ⟨by rfl, ?_⟩) (by assumption) ?_
            rotate_left
            · intro wy hSw
              obtain ⟨hS0, hS1⟩ := hSw
              go_simp
              try with_reducible rfl
            try simp only [Act.put, List.getElem_toArray, List.getElem_cons_succ, List.getElem_cons_zero, List.setIfInBounds_toArray, List.set_cons_zero, List.set_cons_succ]
            refine wpAnyH_take (i := 4) (v := ?_) rfl (by kernel_rfl) (by kernel_rfl) (by kernel_rfl) (fun _ _ _ h => h) (Or.inl ⟨by rfl, ?_⟩) (by assumption) ?_
            rotate_left
            · intro wy hSw
              obtain ⟨hS0, hS1⟩ := hSw
              go_simp
              try with_reducible rfl
            try simp only [Act.put, List.getElem_toArray, List.getElem_cons_succ, List.getElem_cons_zero, List.setIfInBounds_toArray, List.set_cons_zero, List.set_cons_succ]
            refine wpAnyH_take (i := 5) (v := ?_) rfl (by kernel_rfl) (by kernel_rfl) (by kernel_rfl) (fun _ _ _ h => h) (Or.inl ⟨by rfl, ?_⟩) (by assumption) ?_
            rotate_left
            · intro wy hSw
              obtain ⟨hS0, hS1⟩ := hSw
              go_simp
              try with_reducible rfl
            try simp only [Act.put, List.getElem_toArray, List.getElem_cons_succ, List.getElem_cons_zero, List.setIfInBounds_toArray, List.set_cons_zero, List.set_cons_succ]
            refine wpAnyH_take (i := 6) (v := ?_) rfl (by kernel_rfl) (by kernel_rfl) (by kernel_rfl) (fun _ _ _ h => h) (Or.inl ⟨by rfl, ?_⟩) (by assumption) ?_
            rotate_left
            · intro wy hSw
              obtain ⟨hS0, hS1⟩ := hSw
              go_simp
              try with_reducible rfl
            try simp only [Act.put, List.getElem_toArray, List.getElem_cons_succ, List.getElem_cons_zero, List.setIfInBounds_toArray, List.set_cons_zero, List.set_cons_succ]
            refine wpAnyH_take (i := 7) (v := ?_) rfl (by kernel_rfl) (by kernel_rfl) (by kernel_rfl) (fun _ _ _ h => h) (Or.inl ⟨by rfl, ?_⟩) (by assumption) ?_
            rotate_left
            · intro wy hSw
              obtain ⟨hS0, hS1⟩ := hSw
              go_simp
              try with_reducible rfl
            try simp only [Act.put, List.getElem_toArray, List.getElem_cons_succ, List.getElem_cons_zero, List.setIfInBounds_toArray, List.set_cons_zero, List.set_cons_succ]
            refine wpAnyH_take (i := 8) (v := ?_) rfl (by kernel_rfl) (by kernel_rfl) (by kernel_rfl) (fun _ _ _ h => h) (Or.inl ⟨by rfl, ?_⟩) (by assumption) ?_
            rotate_left
            · intro wy hSw
              obtain ⟨hS0, hS1⟩ := hSw
              go_simp
              try with_reducible rfl
            try simp only [Act.put, List.getElem_toArray, List.getElem_cons_succ, List.getElem_cons_zero, List.setIfInBounds_toArray, List.set_cons_zero, List.set_cons_succ]
            refine wpAnyH_take (i := 9) (v := ?_) rfl (by kernel_rfl) (by kernel_rfl) (by kernel_rfl) (fun _ _ _ h => h) (Or.inl ⟨by rfl, ?_⟩) (by assumption) ?_
            rotate_left
            · intro wy hSw
              obtain ⟨hS0, hS1⟩ := hSw
              go_simp
              try with_reducible rfl
            try simp only [Act.put, List.getElem_toArray, List.getElem_cons_succ, List.getElem_cons_zero, List.setIfInBounds_toArray, List.set_cons_zero, List.set_cons_succ]
            refine wpAnyH_take (i := 10) (v := ?_) rfl (by kernel_rfl) (by kernel_rfl) (by kernel_rfl) (fun _ _ _ h => h) (Or.inl ⟨by rfl, ?_⟩) (by assumption) ?_
            rotate_left
            · intro wy hSw
              obtain ⟨hS0, hS1⟩ := hSw
              go_simp
              try with_reducible rfl
            try simp only [Act.put, List.getElem_toArray, List.getElem_cons_succ, List.getElem_cons_zero, List.setIfInBounds_toArray, List.set_cons_zero, List.set_cons_succ]
            refine wpAnyH_take (i := 11) (v := ?_) rfl (by kernel_rfl) (by kernel_rfl) (by kernel_rfl) (fun _ _ _ h => h) (Or.inl ⟨by rfl, ?_⟩) (by assumption) ?_
            rotate_left
            · intro wy hSw
              obtain ⟨hS0, hS1⟩ := hSw
              go_simp
              try with_reducible rfl
            try simp only [Act.put, List.getElem_toArray, List.getElem_cons_succ, List.getElem_cons_zero, List.setIfInBounds_toArray, List.set_cons_zero, List.set_cons_succ]
            refine wpAnyH_take (i := 12) (v := ?_) rfl (by kernel_rfl) (by kernel_rfl) (by kernel_rfl) (fun _ _ _ h => h) (Or.inl ⟨by rfl, ?_⟩) (by assumption) ?_
            rotate_left
            · intro wy hSw
              obtain ⟨hS0, hS1⟩ := hSw
              go_simp
              try with_reducible rfl
            try simp only [Act.put, List.getElem_toArray, List.getElem_cons_succ, List.getElem_cons_zero, List.setIfInBounds_toArray, List.set_cons_zero, List.set_cons_succ]
            refine wpAnyH_ready (rs := [13]) (by kernel_rfl) (by simp) ?_
            refine AllReadyH.cons rfl (fun K hK => ?_) AllReadyH.nil
            go_simp
            refine hK.out _ _ ⟨tyd, tsd⟩ (fun hHeld => ?_)
            clear hK K
            try simp only [Act.put, List.setIfInBounds_toArray, List.set_cons_zero, List.set_cons_succ]
            refine wpAnyH_take (i := 14) (v := ?_) rfl (by kernel_rfl) (by kernel_rfl) (by kernel_rfl) (fun _ _ _ h => h) (Or.inl ⟨by rfl, ?_⟩) (by assumption) ?_
            rotate_left
            · intro wy hSw
              obtain ⟨hS0, hS1⟩ := hSw
              go_simp
              try with_reducible rfl
            try simp only [Act.put, List.getElem_toArray, List.getElem_cons_succ, List.getElem_cons_zero, List.setIfInBounds_toArray, List.set_cons_zero, List.set_cons_succ]
            refine wpAnyH_ready (rs := [15]) (by kernel_rfl) (by simp) ?_
            refine AllReadyH.cons rfl (fun K hK => ?_) AllReadyH.nil
            have HY1 := hide ((unhide HY).setCell hsR (i := t) (by omega) hA rk)
            have hKS := (Kept.refl (fun q => q = b) wd).setCell (p := ⟨b, t, none⟩) rfl (.int .i64 rk)
            have hbB := ((unhide HY).rowBlk hsR hA).1
            have HBX1 := hide ((unhide HBX).kept hKS (fun e => by omega))
            have HR1 := hide ((unhide HR).kept hKS (fun e => by omega))
            have HC1 := hide ((unhide HC).kept hKS (fun q e => by omega))
            have HW1 := hide (keptNew (unhide HW) hKS (fun q e => by omega))
            have hB1 := Nat.le_trans hBd hKS.size
            have ty1 := (unhide HBX1).cell (i := 1) rfl
            have ts1 := (unhide HY1).cell (s := s) (by rw [List.length_set]; exact hsR)
            unfold sltV at ts1
            rw [rowset_self hsR, List.length_set, hA, hml] at ts1
            dsimp only [Option.map] at ts1
            go_simp
            clear hKS tyd tsd ck ct cf hO'
            refine hK.out _ _ ⟨ty1, ts1⟩ (fun hHeld => ?_)
            clear hK K
            try simp only [Act.put, List.setIfInBounds_toArray, List.set_cons_zero, List.set_cons_succ]
            refine wpAnyH_done (by kernel_rfl) ?_ _
            have hA2 := unhide HA
            clear hA hml hA' hcl'
            have hsw := swap_ok (unhide HO) hsR (i := t) (k := kk) (by rw [unhide HML]; exact htm) (by rw [unhide HML]; exact hkm)
            rw [← unhide HRKK, ← unhide HRT] at hsw
            obtain ⟨row, erow⟩ : ∃ z, z = (R'.getD s []).set t rk := ⟨_, rfl⟩
            have hrl : row.length = ml := by rw [erow, List.length_set, unhide HML]
            rw [← erow] at HY1 hsw
            have hrs : (R'.set s row).getD s [] = row := rowset_self hsR
            have hsR1 : s < (R'.set s row).length := by rw [List.length_set]; exact hsR
            have HY2 := hide ((unhide HY1).setCell hsR1 (i := kk) (by rw [hrs, hrl]; exact hkm) (unhide HA) rt)
            rw [hrs, List.set_set] at HY2
            have HO2 := hide hsw.1
            have HX2 : Hid (∀ x ∈ (R'.set s (row.set kk rt)).flatten, x ≤ 2 * (m : Int)) := fun x hx => unhide HX x (List.count_pos_iff.1 (by rw [← hsw.2 x]; exact List.count_pos_iff.2 hx))
            have hRk2 : (R'.set s (row.set kk rt)).length = k := by rw [List.length_set]; exact unhide HRK
            have hml2 : ((R'.set s (row.set kk rt)).getD s []).length = ml := by rw [rowset_self hsR, List.length_set, hrl]
            obtain ⟨w5, ew5⟩ : ∃ z, z = wd.setCell ⟨b, t, none⟩ (.int .i64 rk) := ⟨_, rfl⟩
            rw [← ew5] at HY1 HY2 HBX1 HR1 HC1 HW1 ty1 ts1 hB1 ⊢
            have hO5 := (unhide HY1).row s hsR1
            have c5 : ∃ z, w5.cell? ⟨b, kk, none⟩ = some (.int .i64 z) ∧ w5.frozen? ⟨b, kk, none⟩ = false := by
              obtain ⟨b2, hA3, hO3, _, _⟩ := (unhide HY1).some hsR1 (by rw [hrs, hrl]; omega)
              obtain rfl : b = b2 := by rw [unhide HA] at hA3; cases hA3; rfl
              exact ⟨_, hO3.cell (ints_get _ (i := kk) (by rw [hrs, hrl]; exact hkm)), hO3.frozen kk⟩
            obtain ⟨z5, c5, f5⟩ := c5
            have hbB := ((unhide HY1).rowBlk hsR1 (unhide HA)).1
            have hKS := (Kept.refl (fun q => q = b) w5).setCell (p := ⟨b, kk, none⟩) rfl (.int .i64 rt)
            have HBX2 := hide ((unhide HBX1).kept hKS (fun e => by omega))
            have HR2 := hide ((unhide HR1).kept hKS (fun e => by omega))
            have HC2 := hide ((unhide HC1).kept hKS (fun q e => by omega))
            have HW2 := hide (keptNew (unhide HW1) hKS (fun q e => by omega))
            have hB2 := Nat.le_trans hB1 hKS.size
            have HRK2 := hide hRk2
            have HML2 := hide hml2
            clear hKS hsw hrs hrl hO5 HY1 HBX1 HR1 HC1 HW1 hB1 HY HO HX HBX HR HC HW erow ew5 hRk2 hml2 hA2 hsR1
            go_wp2
            go_roundg (ml - (t + 1))
            case measure => omega
            case rel => exact ⟨t + 1, _, by omega, rfl, by go_num, unhide HML2, unhide HRK2, hB2, HY2, HO2, HX2, HBX2, HR2, HC2, HW2⟩
      have hii : (i : Int) < m := by omega
      have hw1 : IntKind.i64.wrap (box + 1) = box + 1 := by rw [IntKind.wrap_i64]; omega
      have HQ := hide (l1BelowV_any cb n v 2 wr (unhide HC) hn (by omega) (by omega))
      go_wp2_with fail
      refine (unhide HQ).mono ?_
      rintro e w1 ⟨d, rfl, hd0, hd1, hC, hk⟩
      replace HY := hide ((unhide HY).kept hk (fun e => by omega) (fun b h1 h2 e => by omega))
      replace HBX := hide ((unhide HBX).kept hk (fun e => by omega))
      replace HR := hide ((unhide HR).kept hk (fun e => by omega))
      replace HW := hide ((unhide HW).trans hk)
      replace HC := hide hC
      have hBs1 := Nat.le_trans hBs hk.size
      clear hC hk HQ
      have hw2 : IntKind.i64.wrap (box + 1 + d) = box + 1 + d := by rw [IntKind.wrap_i64]; omega
      have HQ := hide (l1BelowV_any cb n v (k : Int) w1 (unhide HC) hn (by omega) (by omega))
      go_wp2_with fail
      refine (unhide HQ).mono ?_
      rintro e w2 ⟨sx, rfl, hs0, hs1, hC, hk⟩
      replace HY := hide ((unhide HY).kept hk (fun e => by omega) (fun b h1 h2 e => by omega))
      replace HBX := hide ((unhide HBX).kept hk (fun e => by omega))
      replace HR := hide ((unhide HR).kept hk (fun e => by omega))
      replace HW := hide ((unhide HW).trans hk)
      replace HC := hide hC
      have hBs2 := Nat.le_trans hBs1 hk.size
      clear hC hk HQ
      obtain ⟨s, rfl⟩ : ∃ s : Nat, sx = (s : Int) := ⟨sx.toNat, by omega⟩
      have hsk : s < k := by omega
      have hsR : s < R.length := by omega
      obtain ⟨nb, enb⟩ : ∃ z, z = box + 1 + d := ⟨_, rfl⟩
      have hnb : box < nb ∧ nb ≤ 2 * ((i : Int) + 1) := by omega
      rw [← enb] at hw2 ⊢
      clear enb hw1 hBs hBs1
      have y0 := (unhide HBX).cell (i := 0) rfl
      have y1 := (unhide HBX).cell (i := 1) rfl
      have ts := (unhide HY).cell hsR
      unfold sltV at ts
      obtain ⟨ml, eml⟩ : ∃ z, z = (R.getD s []).length := ⟨_, rfl⟩
      rw [← eml] at ts
      have HML := hide eml
      have hlow := (unhide HO).low s hsR
      rw [← eml] at hlow
      clear eml
      obtain ⟨ao, eao⟩ : ∃ z, z = (A s).map fun b => (⟨b, 0, none⟩ : Addr) := ⟨_, rfl⟩
      rw [← eao] at ts
      have HAO := hide eao
      clear eao
      by_cases hlt : (ml : Int) < H
      case neg =>
        have dl : decide ((ml : Int) < H) = false := decide_eq_false hlt
        replace HX : Hid (∀ x ∈ R.flatten, x ≤ nb) := fun x hx => by have := unhide HX x hx; omega
        go_wp2
        go_quiet (fail)
        go_wp2
        have hb := drewN_below w2.heap.size w2 nq
        replace HY := hide ((unhide HY).below hb)
        replace HBX := hide ((unhide HBX).step hb)
        replace HR := hide ((unhide HR).step hb)
        replace HC := hide ((unhide HC).below hb)
        replace HW := hide ((unhide HW).trans (kept_of_below hb))
        clear hb
        clear y0 y1 ts
        go_roundg (m - (i + 1))
        case measure => omega
        case rel => exact ⟨i + 1, nb, A, C, R, by omega, rfl, rfl, by go_num, by omega, by omega, hRk, hBs2, HY, HO, HX, HBX, HR, HC, HW⟩
      have dl : decide ((ml : Int) < H) = true := decide_eq_true hlt
      go_wp2
      go_quiet (fail)
      have hb := drewN_below w2.heap.size w2 nq
      replace HY := hide ((unhide HY).below hb)
      replace HBX := hide ((unhide HBX).step hb)
      replace HR := hide ((unhide HR).step hb)
      replace HC := hide ((unhide HC).below hb)
      replace HW := hide ((unhide HW).trans (kept_of_below hb))
      clear hb
      obtain ⟨w3, ew3⟩ : ∃ z, z = w2.drewN nq := ⟨_, rfl⟩
      have hBs3 : B ≤ w3.heap.size := by rw [ew3]; exact hBs2
      rw [← ew3] at HY HBX HR HC HW ⊢
      clear y0 y1 ts ew3 hBs2
      have hnm : nb ∉ R.flatten := fun hx => by have := unhide HX nb hx; omega
      have HO2 := hide (in_ok (unhide HO) hsR hnm (by omega) (by omega) (by rw [← unhide HML]; exact hlt))
      have HX2 : Hid (∀ x ∈ (R.set s (R.getD s [] ++ [nb])).flatten, x ≤ nb) := fun x hx => by
        have h1 := in_count nb hsR x
        have h2 := List.count_pos_iff.2 hx
        by_cases e : nb = x
        · omega
        · rw [if_neg e] at h1
          have := unhide HX x (List.count_pos_iff.1 (by omega))
          omega
      have hRk2 : (R.set s (R.getD s [] ++ [nb])).length = k := by rw [List.length_set]; exact hRk
      clear hnm HX HO hlow
      go_upto_region 9 with (fail)
      obtain ⟨wd, ewd⟩ : ∃ z, z = w3.drew := ⟨_, rfl⟩
      have hb : Below w3.heap.size w3 wd := by rw [ewd]; exact (Below.refl _ _).drew
      have hBd := Nat.le_trans hBs3 hb.size
      replace HY := hide ((unhide HY).below hb)
      replace HBX := hide ((unhide HBX).step hb)
      replace HR := hide ((unhide HR).step hb)
      replace HC := hide ((unhide HC).below hb)
      replace HW := hide ((unhide HW).trans (kept_of_below hb))
      clear hb
      refine wp_region_held_drew (S := fun w' => w'.cell? ⟨gy, 1, none⟩ = some (.slice (some ⟨g, 0, none⟩) k k)) (by kernel_rfl) (by rw [← ewd]; exact (unhide HBX).cell (i := 1) rfl) (fun hHeld => ?_)
      rw [← ewd] at hHeld ⊢
      clear ewd
      have ts := (unhide HY).cell hsR
      unfold sltV at ts
      rw [← unhide HML, ← unhide HAO] at ts
      refine wpAnyH_take (i := 0) (v := ?_) rfl (by kernel_rfl) (by kernel_rfl) (by kernel_rfl) (fun _ _ _ h => h) (Or.inl ⟨by rfl, ?_⟩) (by assumption) ?_
      rotate_left
      · intro wy hSw
        have hS0 := hSw
        go_simp
        try with_reducible rfl
      try simp only [Act.put, List.getElem_toArray, List.getElem_cons_zero, List.setIfInBounds_toArray, List.set_cons_zero, List.set_cons_succ]
      refine wpAnyH_take (i := 1) (v := ?_) rfl (by kernel_rfl) (by kernel_rfl) (by kernel_rfl) (fun _ _ _ h => h) (Or.inl ⟨by rfl, ?_⟩) (by assumption) ?_
      rotate_left
      · intro wy hSw
        have hS0 := hSw
        go_simp
        try with_reducible rfl
      try simp only [Act.put, List.getElem_toArray, List.getElem_cons_succ, List.getElem_cons_zero, List.setIfInBounds_toArray, List.set_cons_zero, List.set_cons_succ]
      refine wpAnyH_take (i := 2) (v := ?_) rfl (by kernel_rfl) (by kernel_rfl) (by kernel_rfl) (fun _ _ _ h => h) (Or.inl ⟨by rfl, ?_⟩) (by assumption) ?_
      rotate_left
      · intro wy hSw
        have hS0 := hSw
        go_simp
        try with_reducible rfl
      try simp only [Act.put, List.getElem_toArray, List.getElem_cons_succ, List.getElem_cons_zero, List.setIfInBounds_toArray, List.set_cons_zero, List.set_cons_succ]
      refine wpAnyH_take (i := 3) (v := ?_) rfl (by kernel_rfl) (by kernel_rfl) (by kernel_rfl) (fun _ _ _ h => h) (Or.inl ⟨by rfl, ?_⟩) (by assumption) ?_
      rotate_left
      · intro wy hSw
        have hS0 := hSw
        go_simp
        try with_reducible rfl
      try simp only [Act.put, List.getElem_toArray, List.getElem_cons_succ, List.getElem_cons_zero, List.setIfInBounds_toArray, List.set_cons_zero, List.set_cons_succ]
      refine wpAnyH_take (i := 4) (v := ?_) rfl (by kernel_rfl) (by kernel_rfl) (by kernel_rfl) (fun _ _ _ h => h) (Or.inl ⟨by rfl, ?_⟩) (by assumption) ?_
      rotate_left
      · intro wy hSw
        have hS0 := hSw
        go_simp
        try with_reducible rfl
      try simp only [Act.put, List.getElem_toArray, List.getElem_cons_succ, List.getElem_cons_zero, List.setIfInBounds_toArray, List.set_cons_zero, List.set_cons_succ]
      refine wpAnyH_take (i := 5) (v := ?_) rfl (by kernel_rfl) (by kernel_rfl) (by kernel_rfl) (fun _ _ _ h => h) (Or.inl ⟨by rfl, ?_⟩) (by assumption) ?_
      rotate_left
      · intro wy hSw
        have hS0 := hSw
        go_simp
        try with_reducible rfl
      try simp only [Act.put, List.getElem_toArray, List.getElem_cons_succ, List.getElem_cons_zero, List.setIfInBounds_toArray, List.set_cons_zero, List.set_cons_succ]
      refine wpAnyH_take (i := 6) (v := ?_) rfl (by kernel_rfl) (by kernel_rfl) (by kernel_rfl) (fun _ _ _ h => h) (Or.inl ⟨by rfl, ?_⟩) (by assumption) ?_
      rotate_left
      · intro wy hSw
        have hS0 := hSw
        go_simp
        try with_reducible rfl
      try simp only [Act.put, List.getElem_toArray, List.getElem_cons_succ, List.getElem_cons_zero, List.setIfInBounds_toArray, List.set_cons_zero, List.set_cons_succ]
      refine wpAnyH_take (i := 8) (v := ?_) rfl (by kernel_rfl) (by kernel_rfl) (by kernel_rfl) (fun _ _ _ h => h) (Or.inl ⟨by rfl, ?_⟩) (by assumption) ?_
      rotate_left
      · intro wy hSw
        have hS0 := hSw
        go_simp
        try with_reducible rfl
      try simp only [Act.put, List.getElem_toArray, List.getElem_cons_succ, List.getElem_cons_zero, List.setIfInBounds_toArray, List.set_cons_zero, List.set_cons_succ]
      refine wpAnyH_ready (rs := [7, 9]) (by kernel_rfl) (by simp) ?_
      refine AllReadyH.cons rfl (fun K hK => ?_) (AllReadyH.cons rfl (fun K hK => ?_) AllReadyH.nil)
      · go_simp
        refine hK.out _ _ ((unhide HBX).cell (i := 1) rfl) (fun hHeld => ?_)
        clear hK K
        try simp only [Act.put, List.setIfInBounds_toArray, List.set_cons_zero, List.set_cons_succ]
        refine wpAnyH_ready (rs := [9]) (by kernel_rfl) (by simp) ?_
        refine AllReadyH.cons rfl (fun K hK => ?_) AllReadyH.nil
        have hb := Below.alloc1 wd (.cells #[.int .i64 nb] 3)
        have HXA := hide (recs_oneI wd nb 3)
        go_simp
        obtain ⟨wa, ewa⟩ : ∃ z, z = wd.alloc (.cells #[.int .i64 nb] 3) := ⟨_, rfl⟩
        obtain ⟨ga, ega⟩ : ∃ z, z = wd.heap.size := ⟨_, rfl⟩
        rw [← ewa] at hb HXA ⊢
        rw [← ega] at HXA ⊢
        have hBa := Nat.le_trans hBd hb.size
        replace HY := hide ((unhide HY).below hb)
        replace HBX := hide ((unhide HBX).step hb)
        replace HR := hide ((unhide HR).step hb)
        replace HC := hide ((unhide HC).below hb)
        replace HW := hide ((unhide HW).trans (kept_of_below hb))
        clear hb ewa ega ts
        refine hK.out _ _ ((unhide HBX).cell (i := 1) rfl) (fun hHeld => ?_)
        clear hK K
        try simp only [Act.put, List.setIfInBounds_toArray, List.set_cons_zero, List.set_cons_succ]
        refine wpAnyH_ready (rs := [10]) (by kernel_rfl) (by simp) ?_
        refine AllReadyH.cons rfl (fun K hK => ?_) AllReadyH.nil
        have hrow := (unhide HY).row s hsR
        rw [← unhide HML, ← unhide HAO] at hrow
        refine step_appOne tyI (by rfl) (.tmp 50) (.tmp 52) (by rfl) B ao ml (C s) (R.getD s []) (by rfl) hrow hBa (by omega) (some ⟨ga, 0, none⟩) 1 nb (by rfl) (unhide HXA) ?_
        intro g1 c1 w5 hr1 hk5 hg1 hor
        have hk6 : Kept (fun b => A s = some b) wa w5 := hk5.mono (fun b _ e => by rw [unhide HAO] at e; cases e2 : A s with | none => rw [e2] at e; cases e | some b' => rw [e2] at e; simp only [Option.map_some, Option.some.injEq, Addr.mk.injEq, and_true] at e; rw [e])
        have hor2 : A s = some g1 ∨ wa.heap.size ≤ g1 := by
          rcases hor with e | e
          · left; rw [unhide HAO] at e; cases e2 : A s with | none => rw [e2] at e; cases e | some b' => rw [e2] at e; simp only [Option.map_some, Option.some.injEq, Addr.mk.injEq, and_true] at e; rw [e]
          · right; omega
        have hAB : ∀ b, A s = some b → B ≤ b := fun b e => ((unhide HY).rowBlk hsR e).1
        have hml : (R.getD s [] ++ [nb]).length = ml + 1 := by rw [List.length_append, ← unhide HML]; rfl
        rw [← hml] at hr1
        have HYN := hide ((unhide HY).put hsR hk6 hr1 hor2)
        rw [hml] at HYN
        unfold sltV at HYN
        have HBX5 := hide ((unhide HBX).kept hk6 (fun e => by have := hAB _ e; omega))
        have HR5 := hide ((unhide HR).kept hk6 (fun e => by have := hAB _ e; omega))
        have HC5 := hide ((unhide HC).kept hk6 (fun b e => by have := hAB _ e; omega))
        have HW5 := hide (keptNew (unhide HW) hk6 (fun b e => by have := hAB _ e; omega))
        have hB5 := Nat.le_trans hBa hk6.size
        have ts0 := ((unhide HY).top.kept hk6 (fun e => by have := hAB _ e; omega))
        have ts5 := ts0.cell (topsR_get A C R hsR)
        have tf5 := ts0.frozen s
        unfold sltV at ts5
        clear hr1 hk5 hk6 hor hor2 hrow hAB hml HXA HY HBX HR HC HW hg1 ts0
        refine hK.out _ _ ((unhide HBX5).cell (i := 1) rfl) (fun hHeld => ?_)
        clear hK K
        try simp only [Act.put, List.setIfInBounds_toArray]
        refine wpAnyH_take (i := 11) (v := ?_) rfl (by kernel_rfl) (by kernel_rfl) (by kernel_rfl) (fun _ _ _ h => h) (Or.inl ⟨by rfl, ?_⟩) (by assumption) ?_
        rotate_left
        · intro wy hSw
          have hS0 := hSw
          go_simp
          try with_reducible rfl
        try simp only [Act.put, List.getElem_toArray, List.getElem_cons_succ, List.getElem_cons_zero, List.setIfInBounds_toArray, List.set_cons_zero, List.set_cons_succ]
        refine wpAnyH_ready (rs := [12]) (by kernel_rfl) (by simp) ?_
        refine AllReadyH.cons rfl (fun K hK => ?_) AllReadyH.nil
        have hKS := (Kept.refl (fun b => b = g) w5).setCell (p := ⟨g, s, none⟩) rfl (.slice (some ⟨g1, 0, none⟩) (ml + 1) c1)
        have HBX6 := hide ((unhide HBX5).kept hKS (fun e => by omega))
        have HR6 := hide ((unhide HR5).kept hKS (fun e => by omega))
        have HC6 := hide ((unhide HC5).kept hKS (fun b e => by omega))
        have HW6 := hide (keptNew (unhide HW5) hKS (fun b e => by omega))
        have hB6 := Nat.le_trans hB5 hKS.size
        clear hKS HBX5 HR5 HC5 HW5
        go_simp
        clear ts5 tf5
        refine hK.out _ _ ((unhide HBX6).cell (i := 1) rfl) (fun hHeld => ?_)
        clear hK K
        try simp only [Act.put, List.setIfInBounds_toArray, List.set_cons_zero, List.set_cons_succ]
        refine wpAnyH_done (by kernel_rfl) ?_ _
        go_wp2
        go_roundg (m - (i + 1))
        case measure => omega
        case rel => exact ⟨i + 1, nb, _, _, _, by omega, rfl, rfl, by go_num, by omega, by omega, hRk2, hB6, HYN, HO2, HX2, HBX6, HR6, HC6, HW6⟩
      · have hb := Below.alloc1 wd (.cells #[.int .i64 nb] 3)
        have HXA := hide (recs_oneI wd nb 3)
        go_simp
        obtain ⟨wa, ewa⟩ : ∃ z, z = wd.alloc (.cells #[.int .i64 nb] 3) := ⟨_, rfl⟩
        obtain ⟨ga, ega⟩ : ∃ z, z = wd.heap.size := ⟨_, rfl⟩
        rw [← ewa] at hb HXA ⊢
        rw [← ega] at HXA ⊢
        have hBa := Nat.le_trans hBd hb.size
        replace HY := hide ((unhide HY).below hb)
        replace HBX := hide ((unhide HBX).step hb)
        replace HR := hide ((unhide HR).step hb)
        replace HC := hide ((unhide HC).below hb)
        replace HW := hide ((unhide HW).trans (kept_of_below hb))
        clear hb ewa ega ts
        refine hK.out _ _ ((unhide HBX).cell (i := 1) rfl) (fun hHeld => ?_)
        clear hK K
        try simp only [Act.put, List.setIfInBounds_toArray, List.set_cons_zero, List.set_cons_succ]
        refine wpAnyH_ready (rs := [7]) (by kernel_rfl) (by simp) ?_
        refine AllReadyH.cons rfl (fun K hK => ?_) AllReadyH.nil
        have ts := (unhide HY).cell hsR
        unfold sltV at ts
        rw [← unhide HML, ← unhide HAO] at ts
        go_simp
        clear ts
        refine hK.out _ _ ((unhide HBX).cell (i := 1) rfl) (fun hHeld => ?_)
        clear hK K
        try simp only [Act.put, List.setIfInBounds_toArray, List.set_cons_zero, List.set_cons_succ]
        refine wpAnyH_ready (rs := [10]) (by kernel_rfl) (by simp) ?_
        refine AllReadyH.cons rfl (fun K hK => ?_) AllReadyH.nil
        have hrow := (unhide HY).row s hsR
        rw [← unhide HML, ← unhide HAO] at hrow
        refine step_appOne tyI (by rfl) (.tmp 50) (.tmp 52) (by rfl) B ao ml (C s) (R.getD s []) (by rfl) hrow hBa (by omega) (some ⟨ga, 0, none⟩) 1 nb (by rfl) (unhide HXA) ?_
        intro g1 c1 w5 hr1 hk5 hg1 hor
        have hk6 : Kept (fun b => A s = some b) wa w5 := hk5.mono (fun b _ e => by rw [unhide HAO] at e; cases e2 : A s with | none => rw [e2] at e; cases e | some b' => rw [e2] at e; simp only [Option.map_some, Option.some.injEq, Addr.mk.injEq, and_true] at e; rw [e])
        have hor2 : A s = some g1 ∨ wa.heap.size ≤ g1 := by
          rcases hor with e | e
          · left; rw [unhide HAO] at e; cases e2 : A s with | none => rw [e2] at e; cases e | some b' => rw [e2] at e; simp only [Option.map_some, Option.some.injEq, Addr.mk.injEq, and_true] at e; rw [e]
          · right; omega
        have hAB : ∀ b, A s = some b → B ≤ b := fun b e => ((unhide HY).rowBlk hsR e).1
        have hml : (R.getD s [] ++ [nb]).length = ml + 1 := by rw [List.length_append, ← unhide HML]; rfl
        rw [← hml] at hr1
        have HYN := hide ((unhide HY).put hsR hk6 hr1 hor2)
        rw [hml] at HYN
        unfold sltV at HYN
        have HBX5 := hide ((unhide HBX).kept hk6 (fun e => by have := hAB _ e; omega))
        have HR5 := hide ((unhide HR).kept hk6 (fun e => by have := hAB _ e; omega))
        have HC5 := hide ((unhide HC).kept hk6 (fun b e => by have := hAB _ e; omega))
        have HW5 := hide (keptNew (unhide HW) hk6 (fun b e => by have := hAB _ e; omega))
        have hB5 := Nat.le_trans hBa hk6.size
        have ts0 := ((unhide HY).top.kept hk6 (fun e => by have := hAB _ e; omega))
        have ts5 := ts0.cell (topsR_get A C R hsR)
        have tf5 := ts0.frozen s
        unfold sltV at ts5
        clear hr1 hk5 hk6 hor hor2 hrow hAB hml HXA HY HBX HR HC HW hg1 ts0
        refine hK.out _ _ ((unhide HBX5).cell (i := 1) rfl) (fun hHeld => ?_)
        clear hK K
        try simp only [Act.put, List.setIfInBounds_toArray]
        refine wpAnyH_take (i := 11) (v := ?_) rfl (by kernel_rfl) (by kernel_rfl) (by kernel_rfl) (fun _ _ _ h => h) (Or.inl ⟨by rfl, ?_⟩) (by assumption) ?_
        rotate_left
        · intro wy hSw
          have hS0 := hSw
          go_simp
          try with_reducible rfl
        try simp only [Act.put, List.getElem_toArray, List.getElem_cons_succ, List.getElem_cons_zero, List.setIfInBounds_toArray, List.set_cons_zero, List.set_cons_succ]
        refine wpAnyH_ready (rs := [12]) (by kernel_rfl) (by simp) ?_
        refine AllReadyH.cons rfl (fun K hK => ?_) AllReadyH.nil
        have hKS := (Kept.refl (fun b => b = g) w5).setCell (p := ⟨g, s, none⟩) rfl (.slice (some ⟨g1, 0, none⟩) (ml + 1) c1)
        have HBX6 := hide ((unhide HBX5).kept hKS (fun e => by omega))
        have HR6 := hide ((unhide HR5).kept hKS (fun e => by omega))
        have HC6 := hide ((unhide HC5).kept hKS (fun b e => by omega))
        have HW6 := hide (keptNew (unhide HW5) hKS (fun b e => by omega))
        have hB6 := Nat.le_trans hB5 hKS.size
        clear hKS HBX5 HR5 HC5 HW5
        go_simp
        clear ts5 tf5
        refine hK.out _ _ ((unhide HBX6).cell (i := 1) rfl) (fun hHeld => ?_)
        clear hK K
        try simp only [Act.put, List.setIfInBounds_toArray, List.set_cons_zero, List.set_cons_succ]
        refine wpAnyH_done (by kernel_rfl) ?_ _
        go_wp2
        go_roundg (m - (i + 1))
        case measure => omega
        case rel => exact ⟨i + 1, nb, _, _, _, by omega, rfl, rfl, by go_num, by omega, by omega, hRk2, hB6, HYN, HO2, HX2, HBX6, HR6, HC6, HW6⟩

end Go.Proofs.Ytdiifkeebgdfkaa

namespace Go.Proofs.Ytdiifkeebgdfkaa
open Go.RowKit

theorem rowB_one (w : World) (B : Nat) (x : Int) (hB : B ≤ w.heap.size) : RowB 3 1 eI B (w.alloc (.cells #[.int .i64 x] 3)) (some ⟨w.heap.size, 0, none⟩) 1 1 [x] :=
  ⟨by simp [recCells], Or.inr ⟨w.heap.size, 1, #[.int .i64 x], rfl, hB, Go.Deep.blk_alloc_new _ _, Nat.le_refl _, by unfold maxLen; omega, by simp, by simp [recCells, eI]⟩⟩

theorem run_append_zeros {P : Program} (w : World) (t ti ty e : TypeId) (i : TypeInfo) (z : Value) (ht : P.underlying t = some (.slice e)) (hti : P.underlying ti = some (.int .i64)) (hi : P.info? e = some i) (hz : i.zero = some z)
    (b : Addr) (sLen sCap : Nat) (olds : List Value) (hlo : olds.length = sLen * i.size) (holds : ∀ j v, olds[j]? = some v → w.cell? (b.add j) = some v) (m : Nat) (hm0 : 0 < m) (hm : m ≤ 1000) (hsz : 0 < i.size) (hby : i.bytes ≤ 1000) (hl : sLen ≤ 1000) (hsc : sCap ≤ 1000)
    (hg : sCap < sLen + m) :
    (Builtin.append_ #[t, ti] ty #[.slice (some b) sLen sCap, .int .i64 m]).run P w =
      .ok (.slice (some ⟨w.heap.size, 0, none⟩) (sLen + m) (grownCap w (sLen + m) sCap e))
        (w.drew.alloc (.cells (olds.toArray ++ Builtin.zeroCells z.cells m ++ Builtin.zeroCells z.cells (grownCap w (sLen + m) sCap e - (sLen + m))) e)) := by
  have hn : ¬ (sLen + m ≤ sCap) := by omega
  have hnc : Builtin.nextslicecap (sLen + m) sCap ≤ 10000 := by
    unfold Builtin.nextslicecap
    split
    · omega
    · split
      · omega
      · simp only [Builtin.growBy]
        split
        · omega
        · split
          · omega
          · split
            · omega
            · split <;> omega
  have hfit : Builtin.nextslicecap (sLen + m) sCap * i.bytes ≤ 281474976710656 := by
    have : Builtin.nextslicecap (sLen + m) sCap * i.bytes ≤ 10000 * 1000 := Nat.mul_le_mul hnc hby
    omega
  have h48' : ¬ (281474976710656 < Builtin.nextslicecap (sLen + m) sCap * i.bytes) := by omega
  have hfo := run_firstCells_some (P := P) w.drew i.size sLen b sLen sCap olds hlo (by simpa using holds)
  have hw : IntKind.i64.wrap (m : Int) = (m : Int) := by rw [IntKind.wrap_i64]; omega
  have hneg : ¬ (m : Int) < 0 := by omega
  have h48 : ¬ (281474976710656 < (m : Int) * (i.bytes : Int)) := by
    have : m * i.bytes ≤ 1000 * 1000 := Nat.mul_le_mul hm hby
    have h2 : (m : Int) * (i.bytes : Int) = ((m * i.bytes : Nat) : Int) := by simp
    rw [h2]; omega
  have h63 : ¬ (9223372036854775807 < ((sLen : Int) + (m : Int))) := by omega
  simp [Builtin.append_, run_underlying ht, run_underlying hti, sizeOf, typeInfo, zeroValue, hi, hz, asInt, asIntOf, hw, hneg, h48, hn, h63, h48', Question.forced, hfo, newRow, grownCap]
  intro h0
  exfalso
  have := Nat.mul_pos hm0 hsz
  omega

end Go.Proofs.Ytdiifkeebgdfkaa

namespace Go.Proofs.Ytdiifkeebgdfkaa
open Go.RowKit

/-- Any yard of few rows that can be read, as it is in all worlds that keep what is elder. -/
def DAns (cb n : Nat) (v : Value) (w : World) (e : Ending) (w' : World) : Prop :=
  ∃ H ao m c R, e = .returned (yardV H (.slice ao m c)) ∧ (∀ (P : Nat → Prop) W', Kept P w' W' → (∀ b, w.heap.size ≤ b → ¬ P b) → RowsIn W' (.slice ao m c) R) ∧ R.length ≤ 100 ∧ (∀ s, s < R.length → (R.getD s []).length ≤ 100) ∧ Cur w' cb v n ∧ Kept (fun b => b = cb) w w'
theorem dAns_of {cb n : Nat} {v : Value} {w w' : World} (H : Int) (ao : Option Addr) (m c : Nat) (R : List (List Int)) (h1 : ∀ (P : Nat → Prop) W', Kept P w' W' → (∀ b, w.heap.size ≤ b → ¬ P b) → RowsIn W' (.slice ao m c) R) (h2 : R.length ≤ 100) (h3 : ∀ s, s < R.length → (R.getD s []).length ≤ 100) (h4 : Cur w' cb v n) (h5 : Kept (fun b => b = cb) w w') :
    DAns cb n v w (.returned (yardV H (.slice ao m c))) w' := ⟨H, ao, m, c, R, rfl, h1, h2, h3, h4, h5⟩
theorem getD_repl (m i : Nat) : (List.replicate m ([] : List Int)).getD i [] = [] := by
  by_cases h : i < m
  · simp [List.getD, h]
  · simp [List.getD, List.getElem?_eq_none (show (List.replicate m ([] : List Int)).length ≤ i by simp; omega)]
theorem more_hi (R : List (List Int)) (m : Nat) {s : Nat} (h : ¬ s < R.length) : (R ++ List.replicate m ([] : List Int)).getD s [] = [] := by
  rw [show (R ++ List.replicate m ([] : List Int)).getD s [] = (List.replicate m ([] : List Int)).getD (s - R.length) [] from by simp [List.getD, List.getElem?_append_right (show R.length ≤ s by omega)]]
  exact getD_repl _ _
theorem step_appZ {ops : Array Oper} {o : Oper} {a : Act} {w : World} {K : Act → World → Prop} {Q : Exit → Act → World → Prop} {E : Prop} (hgd : o.guard = none) (s x : Operand) (St Ti : TypeId)
    (ho : o.op = .call { callee := .builtin .append, args := #[s, x], argTypes := #[St, Ti] }) (v1 v2 r : Value) (w' : World) (hs : a.eval s = v1) (hx : a.eval x = v2) (hrun : (Builtin.append_ #[St, Ti] o.type #[v1, v2]).run Try.prog w = .ok r w') (hK : K (a.put o.dst r) w') :
    if Region.wanted o (yielded ops a.tmps) = true then Oper.wp Try.prog o a w K Q else E := by
  have hw : Region.wanted o (yielded ops a.tmps) = true := by simp [Region.wanted, hgd]
  rw [if_pos hw]
  unfold Oper.wp
  simp [execOp, ho, resolve, invoke, builtin, hs, hx, hrun, Result.andThen]
  exact hK
theorem zeroC (q : Nat) : Builtin.zeroCells (Value.slice none 0 0).cells q = (List.replicate q (Value.slice none 0 0)).toArray := by
  apply Array.ext'
  apply List.ext_getElem
  · simp [Builtin.zeroCells, Value.cells]
  · intro i h1 h2
    simp [Builtin.zeroCells, Value.cells, Nat.mod_one]
theorem rows_more {w : World} {g c m : Nat} {vs more : List Value} {R : List (List Int)} (hO : OwnV w g (vs ++ List.replicate m (.slice none 0 0) ++ more)) (hl : vs.length = R.length) (hv : ∀ s, s < R.length → ∃ vr, vs[s]? = some vr ∧ IntsIn w vr (R.getD s [])) (hc : R.length + m ≤ c) (hm : c ≤ maxLen) :
    RowsIn w (.slice (some ⟨g, 0, none⟩) (R.length + m) c) (R ++ List.replicate m []) := by
  refine ⟨some ⟨g, 0, none⟩, c, by simp, by simpa using hc, hm, fun s hs => ?_⟩
  rw [List.length_append, List.length_replicate] at hs
  by_cases h : s < R.length
  · obtain ⟨vr, h1, h2⟩ := hv s h
    refine ⟨g, 0, vr, rfl, ?_, ?_⟩
    · rw [Nat.zero_add]
      exact hO.cell (by rw [List.append_assoc, List.getElem?_append_left (by omega)]; exact h1)
    · rw [show (R ++ List.replicate m ([] : List Int)).getD s [] = R.getD s [] from by simp [List.getD, List.getElem?_append_left h]]
      exact h2
  · refine ⟨g, 0, .slice none 0 0, rfl, ?_, ?_⟩
    · rw [Nat.zero_add]
      refine hO.cell ?_
      rw [List.append_assoc, List.getElem?_append_right (by omega), List.getElem?_append_left (by rw [List.length_replicate]; omega), List.getElem?_replicate, if_pos (by omega)]
    · rw [more_hi R m h]
      exact ⟨none, 0, rfl, Nat.le_refl _, Nat.zero_le _, fun i hi => by simp at hi⟩
theorem len_more {R : List (List Int)} {m : Nat} (h : ∀ s, s < R.length → (R.getD s []).length ≤ 100) : ∀ s, s < (R ++ List.replicate m ([] : List Int)).length → ((R ++ List.replicate m ([] : List Int)).getD s []).length ≤ 100 := fun s hs => by
  by_cases h2 : s < R.length
  · rw [show (R ++ List.replicate m ([] : List Int)).getD s [] = R.getD s [] from by simp [List.getD, List.getElem?_append_left h2]]
    exact h s h2
  · rw [more_hi R m h2]
    simp

set_option maxRecDepth 100000 in
set_option maxHeartbeats 16000000 in
theorem l18DrawAny_any (cb n : Nat) (v : Value) (w : World) (h : Cur w cb v n) (hn : n ≤ 1048576) :
    Calls Try.prog 56 #[.pointer (some ⟨cb, 0, none⟩)] w fun e w' => DAns cb n v w e w' := by
  have HC := hide h
  have hcl := h.lt
  have hA := Below.alloc1 w (.cells #[.int .i64 0, .slice none 0 0] 26)
  have HR := hide (ownV_alloc w #[.int .i64 0, .slice none 0 0] 26)
  have HW := hide (kept_of_below (T := fun b => b = cb) hA)
  replace HC := hide ((unhide HC).below hA)
  clear h
  go_enter Try.func56, Try.ntmps56
  go_upto_region 1 with (fail)
  obtain ⟨gr, egr⟩ : ∃ z, z = w.heap.size := ⟨_, rfl⟩
  obtain ⟨W0, eW0⟩ : ∃ z, z = w.alloc (.cells #[.int .i64 0, .slice none 0 0] 26) := ⟨_, rfl⟩
  rw [← eW0] at HR HW HC hA ⊢
  rw [← egr] at HR ⊢
  have hgr : w.heap.size ≤ gr := by omega
  have hcg : cb < gr := by omega
  have hrl := (unhide HR).lt
  clear hA egr eW0
  have HQ := hide (l1BelowV_any cb n v 5 W0 (unhide HC) hn (by omega) (by omega))
  go_wp2_with fail
  refine (unhide HQ).mono ?_
  rintro e w1 ⟨x, rfl, hx0, hx1, hC, hk⟩
  replace HW := hide ((unhide HW).trans hk)
  replace HR := hide ((unhide HR).kept hk (fun e => by omega))
  replace HC := hide hC
  clear hC hk HQ
  obtain ⟨k0, rfl⟩ : ∃ z : Nat, x = (z : Int) := ⟨x.toNat, by omega⟩
  obtain ⟨k, ek⟩ : ∃ z : Nat, z = 1 + k0 := ⟨_, rfl⟩
  have hkw : IntKind.i64.wrap (1 + (k0 : Int)) = 1 + (k0 : Int) := by rw [IntKind.wrap_i64]; omega
  have hk1 : 1 ≤ k ∧ k ≤ 5 := by omega
  have HQ := hide (l1BelowV_any cb n v 16 w1 (unhide HC) hn (by omega) (by omega))
  go_wp2_with fail
  refine (unhide HQ).mono ?_
  rintro e w2 ⟨y, rfl, hy0, hy1, hC, hk⟩
  replace HW := hide ((unhide HW).trans hk)
  replace HR := hide ((unhide HR).kept hk (fun e => by omega))
  replace HC := hide hC
  have hrl2 := (unhide HR).lt
  clear hC hk HQ
  obtain ⟨m, rfl⟩ : ∃ z : Nat, y = (z : Int) := ⟨y.toNat, by omega⟩
  have HQ := hide (l18Draw_any cb n v k m w2 (unhide HC) hn (by omega) (by omega) (by omega))
  unfold yardV at HQ
  go_wp2_with fail
  rw [show (1 + (k0 : Int)) = (k : Int) by omega]
  refine (unhide HQ).mono ?_
  rintro e w3 ⟨H, g, B, A, C, R, rfl, HY, HO, hRk, -, hgw, hB3, hC, hk⟩
  replace HW := hide ((unhide HW).trans hk)
  replace HR := hide ((unhide HR).kept hk (fun e => by omega))
  replace HC := hide hC
  clear hC hk HQ hkw
  have HEK := hide ek
  clear ek
  have hgg : gr < g := by omega
  have hgB : g < B := (unhide HY).gB
  have hgs : g < w3.heap.size := (unhide HY).top.lt
  have HAU : Hid (∀ s b, s < R.length → A s = some b → B ≤ b ∧ b < w3.heap.size) := fun s b hs e => (unhide HY).rowBlk hs e
  have HRL : Hid (∀ s, s < R.length → (R.getD s []).length ≤ 10) := fun s hs => by
    have h1 := (unhide HO).low s hs
    have h2 := (unhide HO).h2
    omega
  have hA := Below.alloc1 w3 (.cells #[.int .i64 H, .slice (some ⟨g, 0, none⟩) k k] 26)
  have HBX := hide (ownV_alloc w3 #[.int .i64 H, .slice (some ⟨g, 0, none⟩) k k] 26)
  replace HW := hide ((unhide HW).trans (kept_of_below hA))
  replace HC := hide ((unhide HC).below hA)
  replace HR := hide ((unhide HR).step hA)
  replace HY := hide ((unhide HY).below hA)
  clear hA
  go_upto_region 2 with (fail)
  obtain ⟨gy, egy⟩ : ∃ z, z = w3.heap.size := ⟨_, rfl⟩
  obtain ⟨w4, ew4⟩ : ∃ z, z = w3.alloc (.cells #[.int .i64 H, .slice (some ⟨g, 0, none⟩) k k] 26) := ⟨_, rfl⟩
  rw [← ew4] at HY HR HC HW HBX ⊢
  rw [← egy] at HBX HAU hgs hB3 ⊢
  have hyl := (unhide HBX).lt
  clear egy ew4 HO hrl hrl2
  have HQ := hide (l1BelowV_any cb n v 30 w4 (unhide HC) hn (by omega) (by omega))
  go_wp2_with fail
  refine (unhide HQ).mono ?_
  rintro e w5 ⟨z, rfl, hz0, hz1, hC, hk⟩
  replace HW := hide ((unhide HW).trans hk)
  replace HR := hide ((unhide HR).kept hk (fun e => by omega))
  replace HBX := hide ((unhide HBX).kept hk (fun e => by omega))
  replace HY := hide ((unhide HY).kept hk (fun e => by omega) (fun b h1 h2 e => by omega))
  replace HC := hide hC
  have hyl5 := (unhide HBX).lt
  clear hC hk HQ
  have hR0 : 0 < R.length := by omega
  by_cases z0 : z = 0
  · subst z0
    have hA := Below.alloc1 w5 (.cells #[.int .i64 0, .int .i64 6, .int .i64 7] 3)
    have HXA := hide (ownV_alloc w5 #[.int .i64 0, .int .i64 6, .int .i64 7] 3)
    replace HW := hide ((unhide HW).trans (kept_of_below hA))
    replace HC := hide ((unhide HC).below hA)
    replace HR := hide ((unhide HR).step hA)
    replace HBX := hide ((unhide HBX).step hA)
    replace HY := hide ((unhide HY).below hA)
    have HQ := hide fun (hgc : w5.heap.size ≠ cb) => l1PickInt_any cb n v w5.heap.size 3 [0, 6, 7] (w5.alloc (.cells #[.int .i64 0, .int .i64 6, .int .i64 7] 3)) (unhide HC) hn (by simpa [ints] using unhide HXA) hgc rfl (by omega) (by omega)
    have hgc : w5.heap.size ≠ cb := by omega
    clear hA
    go_wp2_with fail
    refine (unhide HQ hgc).mono ?_
    rintro e w6 ⟨x0, rfl, hC, hk⟩
    replace HW := hide ((unhide HW).trans hk)
    replace HR := hide ((unhide HR).kept hk (fun e => by omega))
    replace HBX := hide ((unhide HBX).kept hk (fun e => by omega))
    replace HY := hide ((unhide HY).kept hk (fun e => by omega) (fun b h1 h2 e => by omega))
    replace HC := hide hC
    have hyl6 := (unhide HBX).lt
    clear hC hk HQ HXA hgc
    have b0 := (unhide HBX).cell (i := 0) rfl
    have bf := (unhide HBX).frozen 0
    have HBN := hide ((unhide HBX).set 0 (.int .i64 x0) (by simp))
    have hKS := (Kept.refl (fun b => b = gy) w6).setCell (p := ⟨gy, 0, none⟩) rfl (.int .i64 x0)
    replace HY := hide ((unhide HY).keptA hKS (fun e => by omega) (fun s b hs e1 e2 => by have := unhide HAU s b hs e1; omega))
    replace HR := hide ((unhide HR).kept hKS (fun e => by omega))
    replace HC := hide ((unhide HC).kept hKS (fun b e => by omega))
    replace HW := hide (keptNew (unhide HW) hKS (fun b e => by omega))
    clear hKS HBX
    have HBX := HBN
    clear HBN
    go_upto_region 11 with (fail)
    obtain ⟨w7, ew7⟩ : ∃ z, z = w6.setCell ⟨gy, 0, none⟩ (.int .i64 x0) := ⟨_, rfl⟩
    rw [← ew7] at HY HR HC HW HBX ⊢
    clear ew7 b0 bf
    have HRW := hide fun (P : Nat → Prop) (W' : World) (hk : Kept (fun b => b = gr ∨ P b) w7 W') (hP : ∀ b, w.heap.size ≤ b → ¬ P b) => (show RowsIn W' (.slice (some ⟨g, 0, none⟩) k k) R from by have h9 := ((unhide HY).kept hk (fun e => e.elim (fun e => by omega) (hP g (by omega))) (fun b h1 _ e => e.elim (fun e => by omega) (hP b (by omega)))).rows (c := k) (by omega) (by unfold maxLen; omega); rw [hRk] at h9; exact h9)
    have b0 := (unhide HBX).cell (i := 0) rfl
    have b1 := (unhide HBX).cell (i := 1) rfl
    have r0 := (unhide HR).cell (i := 0) rfl
    have r1 := (unhide HR).cell (i := 1) rfl
    have rf := (unhide HR).frozen
    have HN := hide (((unhide HR).set 0 (.int .i64 x0) (by simp)).set 1 (.slice (some ⟨g, 0, none⟩) k k) (by simp))
    have hKS := ((Kept.refl (fun b => b = gr) w7).setCell (p := ⟨gr, 0, none⟩) rfl (.int .i64 x0)).setCell (p := ⟨gr, 1, none⟩) rfl (.slice (some ⟨g, 0, none⟩) k k)
    have HCN := hide ((unhide HC).kept hKS (fun b e => by omega))
    have HWN := hide (keptNew (unhide HW) hKS (fun b e => by omega))
    have HRN := hide fun (P : Nat → Prop) (W' : World) (hk : Kept P _ W') (hP : ∀ b, w.heap.size ≤ b → ¬ P b) => unhide HRW P W' ((hKS.mono (fun b _ hb => Or.inl hb)).trans (hk.mono (fun b _ hb => Or.inr hb))) hP
    clear hKS HW HC HR HBX
    go_wp2
    have k0 := (unhide HN).cell (i := 0) rfl
    have k1 := (unhide HN).cell (i := 1) rfl
    refine bodyPost_ret (v := .agg #[.int .i64 x0, .slice (some ⟨g, 0, none⟩) k k]) (by simp [results, Try.results56, go_sem, k0, k1]) rfl (dAns_of _ _ _ _ _ (unhide HRN) (by omega) (fun s hs => Nat.le_trans (unhide HRL s hs) (by omega)) (unhide HCN) (unhide HWN))
  have d0 : (z == 0) = false := by simpa using z0
  by_cases z1 : z = 1
  · subst z1
    clear d0
    have hkp : (0 : Int) < (k : Int) := by omega
    have hkn : 0 < k := by omega
    obtain ⟨ml, eml⟩ : ∃ z, z = (R.getD 0 []).length := ⟨_, rfl⟩
    have HML := hide eml
    have hml10 : ml ≤ 10 := by rw [eml]; exact unhide HRL 0 hR0
    clear eml
    obtain ⟨ao, eao⟩ : ∃ z, z = (A 0).map fun b => (⟨b, 0, none⟩ : Addr) := ⟨_, rfl⟩
    have HAO := hide eao
    clear eao
    go_upto_region 6 with (fail)
    obtain ⟨wd, ewd⟩ : ∃ z, z = w5.drew := ⟨_, rfl⟩
    have hb : Below w5.heap.size w5 wd := by rw [ewd]; exact (Below.refl _ _).drew
    have hylwd := Nat.lt_of_lt_of_le hyl5 hb.size
    replace HW := hide ((unhide HW).trans (kept_of_below hb))
    replace HC := hide ((unhide HC).below hb)
    replace HR := hide ((unhide HR).step hb)
    replace HBX := hide ((unhide HBX).step hb)
    replace HY := hide ((unhide HY).below hb)
    clear hb
    refine wp_region_held_drew (S := fun w' => w'.cell? ⟨gy, 1, none⟩ = some (.slice (some ⟨g, 0, none⟩) k k)) (by kernel_rfl) (by rw [← ewd]; exact (unhide HBX).cell (i := 1) rfl) (fun hHeld => ?_)
    rw [← ewd] at hHeld ⊢
    clear ewd
    refine wpAnyH_take (i := 0) (v := ?_) rfl (by kernel_rfl) (by kernel_rfl) (by kernel_rfl) (fun _ _ _ h => h) (Or.inl ⟨by rfl, ?_⟩) (by assumption) ?_
    rotate_left
    · intro wy hSw
      have hS0 := hSw
      go_simp
      try with_reducible rfl
    try simp only [Act.put, List.getElem_toArray, List.getElem_cons_zero, List.setIfInBounds_toArray, List.set_cons_zero, List.set_cons_succ]
    refine wpAnyH_take (i := 1) (v := ?_) rfl (by kernel_rfl) (by kernel_rfl) (by kernel_rfl) (fun _ _ _ h => h) (Or.inl ⟨by rfl, ?_⟩) (by assumption) ?_
    rotate_left
    · intro wy hSw
      have hS0 := hSw
      go_simp
      try with_reducible rfl
    try simp only [Act.put, List.getElem_toArray, List.getElem_cons_succ, List.getElem_cons_zero, List.setIfInBounds_toArray, List.set_cons_zero, List.set_cons_succ]
    refine wpAnyH_take (i := 2) (v := ?_) rfl (by kernel_rfl) (by kernel_rfl) (by kernel_rfl) (fun _ _ _ h => h) (Or.inl ⟨by rfl, ?_⟩) (by assumption) ?_
    rotate_left
    · intro wy hSw
      have hS0 := hSw
      go_simp
      try with_reducible rfl
    try simp only [Act.put, List.getElem_toArray, List.getElem_cons_succ, List.getElem_cons_zero, List.setIfInBounds_toArray, List.set_cons_zero, List.set_cons_succ]
    refine wpAnyH_take (i := 6) (v := ?_) rfl (by kernel_rfl) (by kernel_rfl) (by kernel_rfl) (fun _ _ _ h => h) (Or.inl ⟨by rfl, ?_⟩) (by assumption) ?_
    rotate_left
    · intro wy hSw
      have hS0 := hSw
      go_simp
      try with_reducible rfl
    try simp only [Act.put, List.getElem_toArray, List.getElem_cons_succ, List.getElem_cons_zero, List.setIfInBounds_toArray, List.set_cons_zero, List.set_cons_succ]
    refine wpAnyH_take (i := 7) (v := ?_) rfl (by kernel_rfl) (by kernel_rfl) (by kernel_rfl) (fun _ _ _ h => h) (Or.inl ⟨by rfl, ?_⟩) (by assumption) ?_
    rotate_left
    · intro wy hSw
      have hS0 := hSw
      go_simp
      try with_reducible rfl
    try simp only [Act.put, List.getElem_toArray, List.getElem_cons_succ, List.getElem_cons_zero, List.setIfInBounds_toArray, List.set_cons_zero, List.set_cons_succ]
    refine wpAnyH_take (i := 8) (v := ?_) rfl (by kernel_rfl) (by kernel_rfl) (by kernel_rfl) (fun _ _ _ h => h) (Or.inl ⟨by rfl, ?_⟩) (by assumption) ?_
    rotate_left
    · intro wy hSw
      have hS0 := hSw
      go_simp
      try with_reducible rfl
    try simp only [Act.put, List.getElem_toArray, List.getElem_cons_succ, List.getElem_cons_zero, List.setIfInBounds_toArray, List.set_cons_zero, List.set_cons_succ]
    refine wpAnyH_ready (rs := [3, 9]) (by kernel_rfl) (by simp) ?_
    refine AllReadyH.cons rfl (fun K hK => ?_) (AllReadyH.cons rfl (fun K hK => ?_) AllReadyH.nil)
    · go_simp
      obtain ⟨ga, eg⟩ : ∃ z, z = wd.heap.size := ⟨_, rfl⟩
      obtain ⟨u3, ew⟩ : ∃ z, z = wd.alloc (.cells #[.int .i64 0, .int .i64 1, .int .i64 1000000, .int .i64 1000001] 3) := ⟨_, rfl⟩
      have hb : Below wd.heap.size wd u3 := by rw [ew]; exact Below.alloc1 _ _
      have HXA : Hid (OwnV u3 ga (ints [0, 1, 1000000, 1000001])) := by rw [ew, eg]; exact ownV_alloc wd #[.int .i64 0, .int .i64 1, .int .i64 1000000, .int .i64 1000001] 3
      rw [← ew, ← eg]
      replace HW := hide ((unhide HW).trans (kept_of_below hb))
      replace HC := hide ((unhide HC).below hb)
      replace HR := hide ((unhide HR).step hb)
      replace HBX := hide ((unhide HBX).step hb)
      replace HY := hide ((unhide HY).below hb)
      have hylu3 := (unhide HBX).lt
      have hgas : gy < ga := by rw [eg]; exact hylwd
      have hgal : ga < u3.heap.size := (unhide HXA).lt
      clear hb eg ew
      refine hK.out _ _ ((unhide HBX).cell (i := 1) rfl) (fun hHeld => ?_)
      clear hK K
      try simp only [Act.put, List.setIfInBounds_toArray, List.set_cons_zero, List.set_cons_succ]
      refine wpAnyH_ready (rs := [4, 9]) (by kernel_rfl) (by simp) ?_
      refine AllReadyH.cons rfl (fun K hK => ?_) (AllReadyH.cons rfl (fun K hK => ?_) AllReadyH.nil)
      · go_simp
        have HCQ := hide (l1PickInt_any cb n v ga 4 [0, 1, 1000000, 1000001] u3 (unhide HC) hn (unhide HXA) (by omega) rfl (by omega) (by omega))
        refine (unhide HCQ).mono ?_
        rintro e u43 ⟨x0, rfl, hC, hk⟩
        replace HW := hide ((unhide HW).trans hk)
        replace HR := hide ((unhide HR).kept hk (fun e => by omega))
        replace HBX := hide ((unhide HBX).kept hk (fun e => by omega))
        replace HY := hide ((unhide HY).kept hk (fun e => by omega) (fun b h1 h2 e => by omega))
        replace HC := hide hC
        have hylu43 := (unhide HBX).lt
        clear hC hk HCQ HXA
        refine hK.out _ _ ((unhide HBX).cell (i := 1) rfl) (fun hHeld => ?_)
        clear hK K
        try simp only [Act.put, List.setIfInBounds_toArray, List.set_cons_zero, List.set_cons_succ]
        refine wpAnyH_ready (rs := [5, 9]) (by kernel_rfl) (by simp) ?_
        refine AllReadyH.cons rfl (fun K hK => ?_) (AllReadyH.cons rfl (fun K hK => ?_) AllReadyH.nil)
        · go_simp
          obtain ⟨gb, eg⟩ : ∃ z, z = u43.heap.size := ⟨_, rfl⟩
          obtain ⟨u534, ew⟩ : ∃ z, z = u43.alloc (.cells #[.int .i64 x0] 3) := ⟨_, rfl⟩
          have hb : Below u43.heap.size u43 u534 := by rw [ew]; exact Below.alloc1 _ _
          have HB1 : Hid (RowB 3 1 eI B u534 (some ⟨gb, 0, none⟩) 1 1 [x0]) := by rw [ew, eg]; exact rowB_one _ _ _ (by omega)
          rw [← ew, ← eg]
          replace HW := hide ((unhide HW).trans (kept_of_below hb))
          replace HC := hide ((unhide HC).below hb)
          replace HR := hide ((unhide HR).step hb)
          replace HBX := hide ((unhide HBX).step hb)
          replace HY := hide ((unhide HY).below hb)
          have hylu534 := (unhide HBX).lt
          have hgbs : gy < gb := by rw [eg]; exact hylu43
          have hgbl : gb < u534.heap.size := by rw [eg, ew, World.size_alloc]; omega
          clear hb eg ew
          refine hK.out _ _ ((unhide HBX).cell (i := 1) rfl) (fun hHeld => ?_)
          clear hK K
          try simp only [Act.put, List.setIfInBounds_toArray, List.set_cons_zero, List.set_cons_succ]
          refine wpAnyH_ready (rs := [9]) (by kernel_rfl) (by simp) ?_
          refine AllReadyH.cons rfl (fun K hK => ?_) AllReadyH.nil
          have ts := (unhide HY).cell hR0
          unfold sltV at ts
          rw [← unhide HML, ← unhide HAO] at ts
          go_simp
          clear ts
          refine hK.out _ _ ((unhide HBX).cell (i := 1) rfl) (fun hHeld => ?_)
          clear hK K
          try simp only [Act.put, List.setIfInBounds_toArray, List.set_cons_zero, List.set_cons_succ]
          refine wpAnyH_ready (rs := [10]) (by kernel_rfl) (by simp) ?_
          refine AllReadyH.cons rfl (fun K hK => ?_) AllReadyH.nil
          have hrow := (unhide HY).row 0 hR0
          rw [← unhide HML, ← unhide HAO] at hrow
          have hrecs := hrow.recs (by omega)
          refine step_appTo tyI (by rfl) (.tmp 26) (.tmp 30) (by rfl) B gb 1 1 [x0] (by rfl) (unhide HB1) (by omega) (by omega) ao ml (C 0) (R.getD 0 []) (by rfl) hrecs (by omega) ?_
          intro g1 c1 w8 hr1 hk8 hor
          have hgb1 : g1 ≠ g := by rcases hor with e | e <;> omega
          have hg1s : g1 < w8.heap.size := by
            rcases hr1.parts (by omega) with ⟨e2, _⟩ | ⟨b', e2, _, h2, _⟩
            · cases e2
            · simp only [Option.some.injEq, Addr.mk.injEq, and_true] at e2; omega
          have HY8 := hide ((unhide HY).keptA hk8 (fun e => by omega) (fun s b hs e1 e2 => by have := unhide HAU s b hs e1; omega))
          have hml : ([x0] ++ R.getD 0 []).length = 1 + ml := by rw [List.length_append, ← unhide HML]; rfl
          rw [← hml] at hr1
          have HYN := hide ((unhide HY8).put' hR0 (Kept.refl _ _) hr1 (fun t ht _ e => by have := unhide HAU t _ ht e; rcases hor with e2 | e2 <;> omega))
          rw [hml] at HYN
          unfold sltV at HYN
          simp only [Option.map_some] at HYN
          have ts8 := (unhide HY8).top.cell (topsR_get A C R hR0)
          have tf8 := (unhide HY8).top.frozen 0
          unfold sltV at ts8
          have HBX8 := hide ((unhide HBX).kept hk8 (fun e => by omega))
          have HR8 := hide ((unhide HR).kept hk8 (fun e => by omega))
          have HC8 := hide ((unhide HC).kept hk8 (fun b e => by omega))
          have HW8 := hide (keptNew (unhide HW) hk8 (fun b e => by omega))
          clear hr1 hk8 hor hrow hrecs hml HB1 HY HBX HR HC HW
          refine hK.out _ _ ((unhide HBX8).cell (i := 1) rfl) (fun hHeld => ?_)
          clear hK K
          try simp only [Act.put, List.setIfInBounds_toArray]
          refine wpAnyH_take (i := 11) (v := ?_) rfl (by kernel_rfl) (by kernel_rfl) (by kernel_rfl) (fun _ _ _ h => h) (Or.inl ⟨by rfl, ?_⟩) (by assumption) ?_
          rotate_left
          · intro wy hSw
            have hS0 := hSw
            go_simp
            try with_reducible rfl
          try simp only [Act.put, List.getElem_toArray, List.getElem_cons_succ, List.getElem_cons_zero, List.setIfInBounds_toArray, List.set_cons_zero, List.set_cons_succ]
          refine wpAnyH_ready (rs := [12]) (by kernel_rfl) (by simp) ?_
          refine AllReadyH.cons rfl (fun K hK => ?_) AllReadyH.nil
          have hKS := (Kept.refl (fun b => b = g) w8).setCell (p := ⟨g, 0, none⟩) rfl (.slice (some ⟨g1, 0, none⟩) (1 + ml) c1)
          have HBX := hide ((unhide HBX8).kept hKS (fun e => by omega))
          have HR := hide ((unhide HR8).kept hKS (fun e => by omega))
          have HC := hide ((unhide HC8).kept hKS (fun b e => by omega))
          have HW := hide (keptNew (unhide HW8) hKS (fun b e => by omega))
          clear hKS HBX8 HR8 HC8 HW8 HY8
          go_simp
          clear ts8 tf8
          obtain ⟨w9, ew9⟩ : ∃ z, z = w8.setCell ⟨g, 0, none⟩ (.slice (some ⟨g1, 0, none⟩) (1 + ml) c1) := ⟨_, rfl⟩
          rw [← ew9] at HYN HR HC HW HBX ⊢
          clear ew9
          refine hK.out _ _ ((unhide HBX).cell (i := 1) rfl) (fun hHeld => ?_)
          clear hK K
          try simp only [Act.put, List.setIfInBounds_toArray, List.set_cons_zero, List.set_cons_succ]
          refine wpAnyH_done (by kernel_rfl) ?_ _
          obtain ⟨R9, eR9⟩ : ∃ z, z = R.set 0 ([x0] ++ R.getD 0 []) := ⟨_, rfl⟩
          have hR9 : R9.length = k := by rw [eR9, List.length_set]; exact hRk
          have HR9 : Hid (∀ s, s < R9.length → (R9.getD s []).length ≤ 100) := fun s hs => by
            rw [eR9]
            by_cases e : s = 0
            · subst e; rw [rowset_self hR0, List.length_append, ← unhide HML]; show 1 + ml ≤ 100; omega
            · rw [rowset_ne e]; have := unhide HRL s (by omega); omega
          rw [← eR9] at HYN
          clear eR9
          go_upto_region 11 with (fail)
          have HRW := hide fun (P : Nat → Prop) (W' : World) (hk : Kept (fun b => b = gr ∨ P b) w9 W') (hP : ∀ b, w.heap.size ≤ b → ¬ P b) => (show RowsIn W' (.slice (some ⟨g, 0, none⟩) k k) R9 from by have h9 := ((unhide HYN).kept hk (fun e => e.elim (fun e => by omega) (hP g (by omega))) (fun b h1 _ e => e.elim (fun e => by omega) (hP b (by omega)))).rows (c := k) (by omega) (by unfold maxLen; omega); rw [hR9] at h9; exact h9)
          have b0 := (unhide HBX).cell (i := 0) rfl
          have b1 := (unhide HBX).cell (i := 1) rfl
          have r0 := (unhide HR).cell (i := 0) rfl
          have r1 := (unhide HR).cell (i := 1) rfl
          have rf := (unhide HR).frozen
          have HN := hide (((unhide HR).set 0 (.int .i64 H) (by simp)).set 1 (.slice (some ⟨g, 0, none⟩) k k) (by simp))
          have hKS := ((Kept.refl (fun b => b = gr) w9).setCell (p := ⟨gr, 0, none⟩) rfl (.int .i64 H)).setCell (p := ⟨gr, 1, none⟩) rfl (.slice (some ⟨g, 0, none⟩) k k)
          have HCN := hide ((unhide HC).kept hKS (fun b e => by omega))
          have HWN := hide (keptNew (unhide HW) hKS (fun b e => by omega))
          have HRN := hide fun (P : Nat → Prop) (W' : World) (hk : Kept P _ W') (hP : ∀ b, w.heap.size ≤ b → ¬ P b) => unhide HRW P W' ((hKS.mono (fun b _ hb => Or.inl hb)).trans (hk.mono (fun b _ hb => Or.inr hb))) hP
          clear hKS HW HC HR HBX
          go_wp2
          have k0 := (unhide HN).cell (i := 0) rfl
          have k1 := (unhide HN).cell (i := 1) rfl
          refine bodyPost_ret (v := .agg #[.int .i64 H, .slice (some ⟨g, 0, none⟩) k k]) (by simp [results, Try.results56, go_sem, k0, k1]) rfl (dAns_of _ _ _ _ _ (unhide HRN) (by omega) (unhide HR9) (unhide HCN) (unhide HWN))
        · have ts := (unhide HY).cell hR0
          unfold sltV at ts
          rw [← unhide HML, ← unhide HAO] at ts
          go_simp
          clear ts
          refine hK.out _ _ ((unhide HBX).cell (i := 1) rfl) (fun hHeld => ?_)
          clear hK K
          try simp only [Act.put, List.setIfInBounds_toArray, List.set_cons_zero, List.set_cons_succ]
          refine wpAnyH_ready (rs := [5]) (by kernel_rfl) (by simp) ?_
          refine AllReadyH.cons rfl (fun K hK => ?_) AllReadyH.nil
          go_simp
          obtain ⟨gb, eg⟩ : ∃ z, z = u43.heap.size := ⟨_, rfl⟩
          obtain ⟨u5349, ew⟩ : ∃ z, z = u43.alloc (.cells #[.int .i64 x0] 3) := ⟨_, rfl⟩
          have hb : Below u43.heap.size u43 u5349 := by rw [ew]; exact Below.alloc1 _ _
          have HB1 : Hid (RowB 3 1 eI B u5349 (some ⟨gb, 0, none⟩) 1 1 [x0]) := by rw [ew, eg]; exact rowB_one _ _ _ (by omega)
          rw [← ew, ← eg]
          replace HW := hide ((unhide HW).trans (kept_of_below hb))
          replace HC := hide ((unhide HC).below hb)
          replace HR := hide ((unhide HR).step hb)
          replace HBX := hide ((unhide HBX).step hb)
          replace HY := hide ((unhide HY).below hb)
          have hylu5349 := (unhide HBX).lt
          have hgbs : gy < gb := by rw [eg]; exact hylu43
          have hgbl : gb < u5349.heap.size := by rw [eg, ew, World.size_alloc]; omega
          clear hb eg ew
          refine hK.out _ _ ((unhide HBX).cell (i := 1) rfl) (fun hHeld => ?_)
          clear hK K
          try simp only [Act.put, List.setIfInBounds_toArray, List.set_cons_zero, List.set_cons_succ]
          refine wpAnyH_ready (rs := [10]) (by kernel_rfl) (by simp) ?_
          refine AllReadyH.cons rfl (fun K hK => ?_) AllReadyH.nil
          have hrow := (unhide HY).row 0 hR0
          rw [← unhide HML, ← unhide HAO] at hrow
          have hrecs := hrow.recs (by omega)
          refine step_appTo tyI (by rfl) (.tmp 26) (.tmp 30) (by rfl) B gb 1 1 [x0] (by rfl) (unhide HB1) (by omega) (by omega) ao ml (C 0) (R.getD 0 []) (by rfl) hrecs (by omega) ?_
          intro g1 c1 w8 hr1 hk8 hor
          have hgb1 : g1 ≠ g := by rcases hor with e | e <;> omega
          have hg1s : g1 < w8.heap.size := by
            rcases hr1.parts (by omega) with ⟨e2, _⟩ | ⟨b', e2, _, h2, _⟩
            · cases e2
            · simp only [Option.some.injEq, Addr.mk.injEq, and_true] at e2; omega
          have HY8 := hide ((unhide HY).keptA hk8 (fun e => by omega) (fun s b hs e1 e2 => by have := unhide HAU s b hs e1; omega))
          have hml : ([x0] ++ R.getD 0 []).length = 1 + ml := by rw [List.length_append, ← unhide HML]; rfl
          rw [← hml] at hr1
          have HYN := hide ((unhide HY8).put' hR0 (Kept.refl _ _) hr1 (fun t ht _ e => by have := unhide HAU t _ ht e; rcases hor with e2 | e2 <;> omega))
          rw [hml] at HYN
          unfold sltV at HYN
          simp only [Option.map_some] at HYN
          have ts8 := (unhide HY8).top.cell (topsR_get A C R hR0)
          have tf8 := (unhide HY8).top.frozen 0
          unfold sltV at ts8
          have HBX8 := hide ((unhide HBX).kept hk8 (fun e => by omega))
          have HR8 := hide ((unhide HR).kept hk8 (fun e => by omega))
          have HC8 := hide ((unhide HC).kept hk8 (fun b e => by omega))
          have HW8 := hide (keptNew (unhide HW) hk8 (fun b e => by omega))
          clear hr1 hk8 hor hrow hrecs hml HB1 HY HBX HR HC HW
          refine hK.out _ _ ((unhide HBX8).cell (i := 1) rfl) (fun hHeld => ?_)
          clear hK K
          try simp only [Act.put, List.setIfInBounds_toArray]
          refine wpAnyH_take (i := 11) (v := ?_) rfl (by kernel_rfl) (by kernel_rfl) (by kernel_rfl) (fun _ _ _ h => h) (Or.inl ⟨by rfl, ?_⟩) (by assumption) ?_
          rotate_left
          · intro wy hSw
            have hS0 := hSw
            go_simp
            try with_reducible rfl
          try simp only [Act.put, List.getElem_toArray, List.getElem_cons_succ, List.getElem_cons_zero, List.setIfInBounds_toArray, List.set_cons_zero, List.set_cons_succ]
          refine wpAnyH_ready (rs := [12]) (by kernel_rfl) (by simp) ?_
          refine AllReadyH.cons rfl (fun K hK => ?_) AllReadyH.nil
          have hKS := (Kept.refl (fun b => b = g) w8).setCell (p := ⟨g, 0, none⟩) rfl (.slice (some ⟨g1, 0, none⟩) (1 + ml) c1)
          have HBX := hide ((unhide HBX8).kept hKS (fun e => by omega))
          have HR := hide ((unhide HR8).kept hKS (fun e => by omega))
          have HC := hide ((unhide HC8).kept hKS (fun b e => by omega))
          have HW := hide (keptNew (unhide HW8) hKS (fun b e => by omega))
          clear hKS HBX8 HR8 HC8 HW8 HY8
          go_simp
          clear ts8 tf8
          obtain ⟨w9, ew9⟩ : ∃ z, z = w8.setCell ⟨g, 0, none⟩ (.slice (some ⟨g1, 0, none⟩) (1 + ml) c1) := ⟨_, rfl⟩
          rw [← ew9] at HYN HR HC HW HBX ⊢
          clear ew9
          refine hK.out _ _ ((unhide HBX).cell (i := 1) rfl) (fun hHeld => ?_)
          clear hK K
          try simp only [Act.put, List.setIfInBounds_toArray, List.set_cons_zero, List.set_cons_succ]
          refine wpAnyH_done (by kernel_rfl) ?_ _
          obtain ⟨R9, eR9⟩ : ∃ z, z = R.set 0 ([x0] ++ R.getD 0 []) := ⟨_, rfl⟩
          have hR9 : R9.length = k := by rw [eR9, List.length_set]; exact hRk
          have HR9 : Hid (∀ s, s < R9.length → (R9.getD s []).length ≤ 100) := fun s hs => by
            rw [eR9]
            by_cases e : s = 0
            · subst e; rw [rowset_self hR0, List.length_append, ← unhide HML]; show 1 + ml ≤ 100; omega
            · rw [rowset_ne e]; have := unhide HRL s (by omega); omega
          rw [← eR9] at HYN
          clear eR9
          go_upto_region 11 with (fail)
          have HRW := hide fun (P : Nat → Prop) (W' : World) (hk : Kept (fun b => b = gr ∨ P b) w9 W') (hP : ∀ b, w.heap.size ≤ b → ¬ P b) => (show RowsIn W' (.slice (some ⟨g, 0, none⟩) k k) R9 from by have h9 := ((unhide HYN).kept hk (fun e => e.elim (fun e => by omega) (hP g (by omega))) (fun b h1 _ e => e.elim (fun e => by omega) (hP b (by omega)))).rows (c := k) (by omega) (by unfold maxLen; omega); rw [hR9] at h9; exact h9)
          have b0 := (unhide HBX).cell (i := 0) rfl
          have b1 := (unhide HBX).cell (i := 1) rfl
          have r0 := (unhide HR).cell (i := 0) rfl
          have r1 := (unhide HR).cell (i := 1) rfl
          have rf := (unhide HR).frozen
          have HN := hide (((unhide HR).set 0 (.int .i64 H) (by simp)).set 1 (.slice (some ⟨g, 0, none⟩) k k) (by simp))
          have hKS := ((Kept.refl (fun b => b = gr) w9).setCell (p := ⟨gr, 0, none⟩) rfl (.int .i64 H)).setCell (p := ⟨gr, 1, none⟩) rfl (.slice (some ⟨g, 0, none⟩) k k)
          have HCN := hide ((unhide HC).kept hKS (fun b e => by omega))
          have HWN := hide (keptNew (unhide HW) hKS (fun b e => by omega))
          have HRN := hide fun (P : Nat → Prop) (W' : World) (hk : Kept P _ W') (hP : ∀ b, w.heap.size ≤ b → ¬ P b) => unhide HRW P W' ((hKS.mono (fun b _ hb => Or.inl hb)).trans (hk.mono (fun b _ hb => Or.inr hb))) hP
          clear hKS HW HC HR HBX
          go_wp2
          have k0 := (unhide HN).cell (i := 0) rfl
          have k1 := (unhide HN).cell (i := 1) rfl
          refine bodyPost_ret (v := .agg #[.int .i64 H, .slice (some ⟨g, 0, none⟩) k k]) (by simp [results, Try.results56, go_sem, k0, k1]) rfl (dAns_of _ _ _ _ _ (unhide HRN) (by omega) (unhide HR9) (unhide HCN) (unhide HWN))
      · have ts := (unhide HY).cell hR0
        unfold sltV at ts
        rw [← unhide HML, ← unhide HAO] at ts
        go_simp
        clear ts
        refine hK.out _ _ ((unhide HBX).cell (i := 1) rfl) (fun hHeld => ?_)
        clear hK K
        try simp only [Act.put, List.setIfInBounds_toArray, List.set_cons_zero, List.set_cons_succ]
        refine wpAnyH_ready (rs := [4]) (by kernel_rfl) (by simp) ?_
        refine AllReadyH.cons rfl (fun K hK => ?_) AllReadyH.nil
        go_simp
        have HCQ := hide (l1PickInt_any cb n v ga 4 [0, 1, 1000000, 1000001] u3 (unhide HC) hn (unhide HXA) (by omega) rfl (by omega) (by omega))
        refine (unhide HCQ).mono ?_
        rintro e u439 ⟨x0, rfl, hC, hk⟩
        replace HW := hide ((unhide HW).trans hk)
        replace HR := hide ((unhide HR).kept hk (fun e => by omega))
        replace HBX := hide ((unhide HBX).kept hk (fun e => by omega))
        replace HY := hide ((unhide HY).kept hk (fun e => by omega) (fun b h1 h2 e => by omega))
        replace HC := hide hC
        have hylu439 := (unhide HBX).lt
        clear hC hk HCQ HXA
        refine hK.out _ _ ((unhide HBX).cell (i := 1) rfl) (fun hHeld => ?_)
        clear hK K
        try simp only [Act.put, List.setIfInBounds_toArray, List.set_cons_zero, List.set_cons_succ]
        refine wpAnyH_ready (rs := [5]) (by kernel_rfl) (by simp) ?_
        refine AllReadyH.cons rfl (fun K hK => ?_) AllReadyH.nil
        go_simp
        obtain ⟨gb, eg⟩ : ∃ z, z = u439.heap.size := ⟨_, rfl⟩
        obtain ⟨u5394, ew⟩ : ∃ z, z = u439.alloc (.cells #[.int .i64 x0] 3) := ⟨_, rfl⟩
        have hb : Below u439.heap.size u439 u5394 := by rw [ew]; exact Below.alloc1 _ _
        have HB1 : Hid (RowB 3 1 eI B u5394 (some ⟨gb, 0, none⟩) 1 1 [x0]) := by rw [ew, eg]; exact rowB_one _ _ _ (by omega)
        rw [← ew, ← eg]
        replace HW := hide ((unhide HW).trans (kept_of_below hb))
        replace HC := hide ((unhide HC).below hb)
        replace HR := hide ((unhide HR).step hb)
        replace HBX := hide ((unhide HBX).step hb)
        replace HY := hide ((unhide HY).below hb)
        have hylu5394 := (unhide HBX).lt
        have hgbs : gy < gb := by rw [eg]; exact hylu439
        have hgbl : gb < u5394.heap.size := by rw [eg, ew, World.size_alloc]; omega
        clear hb eg ew
        refine hK.out _ _ ((unhide HBX).cell (i := 1) rfl) (fun hHeld => ?_)
        clear hK K
        try simp only [Act.put, List.setIfInBounds_toArray, List.set_cons_zero, List.set_cons_succ]
        refine wpAnyH_ready (rs := [10]) (by kernel_rfl) (by simp) ?_
        refine AllReadyH.cons rfl (fun K hK => ?_) AllReadyH.nil
        have hrow := (unhide HY).row 0 hR0
        rw [← unhide HML, ← unhide HAO] at hrow
        have hrecs := hrow.recs (by omega)
        refine step_appTo tyI (by rfl) (.tmp 26) (.tmp 30) (by rfl) B gb 1 1 [x0] (by rfl) (unhide HB1) (by omega) (by omega) ao ml (C 0) (R.getD 0 []) (by rfl) hrecs (by omega) ?_
        intro g1 c1 w8 hr1 hk8 hor
        have hgb1 : g1 ≠ g := by rcases hor with e | e <;> omega
        have hg1s : g1 < w8.heap.size := by
          rcases hr1.parts (by omega) with ⟨e2, _⟩ | ⟨b', e2, _, h2, _⟩
          · cases e2
          · simp only [Option.some.injEq, Addr.mk.injEq, and_true] at e2; omega
        have HY8 := hide ((unhide HY).keptA hk8 (fun e => by omega) (fun s b hs e1 e2 => by have := unhide HAU s b hs e1; omega))
        have hml : ([x0] ++ R.getD 0 []).length = 1 + ml := by rw [List.length_append, ← unhide HML]; rfl
        rw [← hml] at hr1
        have HYN := hide ((unhide HY8).put' hR0 (Kept.refl _ _) hr1 (fun t ht _ e => by have := unhide HAU t _ ht e; rcases hor with e2 | e2 <;> omega))
        rw [hml] at HYN
        unfold sltV at HYN
        simp only [Option.map_some] at HYN
        have ts8 := (unhide HY8).top.cell (topsR_get A C R hR0)
        have tf8 := (unhide HY8).top.frozen 0
        unfold sltV at ts8
        have HBX8 := hide ((unhide HBX).kept hk8 (fun e => by omega))
        have HR8 := hide ((unhide HR).kept hk8 (fun e => by omega))
        have HC8 := hide ((unhide HC).kept hk8 (fun b e => by omega))
        have HW8 := hide (keptNew (unhide HW) hk8 (fun b e => by omega))
        clear hr1 hk8 hor hrow hrecs hml HB1 HY HBX HR HC HW
        refine hK.out _ _ ((unhide HBX8).cell (i := 1) rfl) (fun hHeld => ?_)
        clear hK K
        try simp only [Act.put, List.setIfInBounds_toArray]
        refine wpAnyH_take (i := 11) (v := ?_) rfl (by kernel_rfl) (by kernel_rfl) (by kernel_rfl) (fun _ _ _ h => h) (Or.inl ⟨by rfl, ?_⟩) (by assumption) ?_
        rotate_left
        · intro wy hSw
          have hS0 := hSw
          go_simp
          try with_reducible rfl
        try simp only [Act.put, List.getElem_toArray, List.getElem_cons_succ, List.getElem_cons_zero, List.setIfInBounds_toArray, List.set_cons_zero, List.set_cons_succ]
        refine wpAnyH_ready (rs := [12]) (by kernel_rfl) (by simp) ?_
        refine AllReadyH.cons rfl (fun K hK => ?_) AllReadyH.nil
        have hKS := (Kept.refl (fun b => b = g) w8).setCell (p := ⟨g, 0, none⟩) rfl (.slice (some ⟨g1, 0, none⟩) (1 + ml) c1)
        have HBX := hide ((unhide HBX8).kept hKS (fun e => by omega))
        have HR := hide ((unhide HR8).kept hKS (fun e => by omega))
        have HC := hide ((unhide HC8).kept hKS (fun b e => by omega))
        have HW := hide (keptNew (unhide HW8) hKS (fun b e => by omega))
        clear hKS HBX8 HR8 HC8 HW8 HY8
        go_simp
        clear ts8 tf8
        obtain ⟨w9, ew9⟩ : ∃ z, z = w8.setCell ⟨g, 0, none⟩ (.slice (some ⟨g1, 0, none⟩) (1 + ml) c1) := ⟨_, rfl⟩
        rw [← ew9] at HYN HR HC HW HBX ⊢
        clear ew9
        refine hK.out _ _ ((unhide HBX).cell (i := 1) rfl) (fun hHeld => ?_)
        clear hK K
        try simp only [Act.put, List.setIfInBounds_toArray, List.set_cons_zero, List.set_cons_succ]
        refine wpAnyH_done (by kernel_rfl) ?_ _
        obtain ⟨R9, eR9⟩ : ∃ z, z = R.set 0 ([x0] ++ R.getD 0 []) := ⟨_, rfl⟩
        have hR9 : R9.length = k := by rw [eR9, List.length_set]; exact hRk
        have HR9 : Hid (∀ s, s < R9.length → (R9.getD s []).length ≤ 100) := fun s hs => by
          rw [eR9]
          by_cases e : s = 0
          · subst e; rw [rowset_self hR0, List.length_append, ← unhide HML]; show 1 + ml ≤ 100; omega
          · rw [rowset_ne e]; have := unhide HRL s (by omega); omega
        rw [← eR9] at HYN
        clear eR9
        go_upto_region 11 with (fail)
        have HRW := hide fun (P : Nat → Prop) (W' : World) (hk : Kept (fun b => b = gr ∨ P b) w9 W') (hP : ∀ b, w.heap.size ≤ b → ¬ P b) => (show RowsIn W' (.slice (some ⟨g, 0, none⟩) k k) R9 from by have h9 := ((unhide HYN).kept hk (fun e => e.elim (fun e => by omega) (hP g (by omega))) (fun b h1 _ e => e.elim (fun e => by omega) (hP b (by omega)))).rows (c := k) (by omega) (by unfold maxLen; omega); rw [hR9] at h9; exact h9)
        have b0 := (unhide HBX).cell (i := 0) rfl
        have b1 := (unhide HBX).cell (i := 1) rfl
        have r0 := (unhide HR).cell (i := 0) rfl
        have r1 := (unhide HR).cell (i := 1) rfl
        have rf := (unhide HR).frozen
        have HN := hide (((unhide HR).set 0 (.int .i64 H) (by simp)).set 1 (.slice (some ⟨g, 0, none⟩) k k) (by simp))
        have hKS := ((Kept.refl (fun b => b = gr) w9).setCell (p := ⟨gr, 0, none⟩) rfl (.int .i64 H)).setCell (p := ⟨gr, 1, none⟩) rfl (.slice (some ⟨g, 0, none⟩) k k)
        have HCN := hide ((unhide HC).kept hKS (fun b e => by omega))
        have HWN := hide (keptNew (unhide HW) hKS (fun b e => by omega))
        have HRN := hide fun (P : Nat → Prop) (W' : World) (hk : Kept P _ W') (hP : ∀ b, w.heap.size ≤ b → ¬ P b) => unhide HRW P W' ((hKS.mono (fun b _ hb => Or.inl hb)).trans (hk.mono (fun b _ hb => Or.inr hb))) hP
        clear hKS HW HC HR HBX
        go_wp2
        have k0 := (unhide HN).cell (i := 0) rfl
        have k1 := (unhide HN).cell (i := 1) rfl
        refine bodyPost_ret (v := .agg #[.int .i64 H, .slice (some ⟨g, 0, none⟩) k k]) (by simp [results, Try.results56, go_sem, k0, k1]) rfl (dAns_of _ _ _ _ _ (unhide HRN) (by omega) (unhide HR9) (unhide HCN) (unhide HWN))
    · have ts := (unhide HY).cell hR0
      unfold sltV at ts
      rw [← unhide HML, ← unhide HAO] at ts
      go_simp
      clear ts
      refine hK.out _ _ ((unhide HBX).cell (i := 1) rfl) (fun hHeld => ?_)
      clear hK K
      try simp only [Act.put, List.setIfInBounds_toArray, List.set_cons_zero, List.set_cons_succ]
      refine wpAnyH_ready (rs := [3]) (by kernel_rfl) (by simp) ?_
      refine AllReadyH.cons rfl (fun K hK => ?_) AllReadyH.nil
      go_simp
      obtain ⟨ga, eg⟩ : ∃ z, z = wd.heap.size := ⟨_, rfl⟩
      obtain ⟨u39, ew⟩ : ∃ z, z = wd.alloc (.cells #[.int .i64 0, .int .i64 1, .int .i64 1000000, .int .i64 1000001] 3) := ⟨_, rfl⟩
      have hb : Below wd.heap.size wd u39 := by rw [ew]; exact Below.alloc1 _ _
      have HXA : Hid (OwnV u39 ga (ints [0, 1, 1000000, 1000001])) := by rw [ew, eg]; exact ownV_alloc wd #[.int .i64 0, .int .i64 1, .int .i64 1000000, .int .i64 1000001] 3
      rw [← ew, ← eg]
      replace HW := hide ((unhide HW).trans (kept_of_below hb))
      replace HC := hide ((unhide HC).below hb)
      replace HR := hide ((unhide HR).step hb)
      replace HBX := hide ((unhide HBX).step hb)
      replace HY := hide ((unhide HY).below hb)
      have hylu39 := (unhide HBX).lt
      have hgas : gy < ga := by rw [eg]; exact hylwd
      have hgal : ga < u39.heap.size := (unhide HXA).lt
      clear hb eg ew
      refine hK.out _ _ ((unhide HBX).cell (i := 1) rfl) (fun hHeld => ?_)
      clear hK K
      try simp only [Act.put, List.setIfInBounds_toArray, List.set_cons_zero, List.set_cons_succ]
      refine wpAnyH_ready (rs := [4]) (by kernel_rfl) (by simp) ?_
      refine AllReadyH.cons rfl (fun K hK => ?_) AllReadyH.nil
      go_simp
      have HCQ := hide (l1PickInt_any cb n v ga 4 [0, 1, 1000000, 1000001] u39 (unhide HC) hn (unhide HXA) (by omega) rfl (by omega) (by omega))
      refine (unhide HCQ).mono ?_
      rintro e u493 ⟨x0, rfl, hC, hk⟩
      replace HW := hide ((unhide HW).trans hk)
      replace HR := hide ((unhide HR).kept hk (fun e => by omega))
      replace HBX := hide ((unhide HBX).kept hk (fun e => by omega))
      replace HY := hide ((unhide HY).kept hk (fun e => by omega) (fun b h1 h2 e => by omega))
      replace HC := hide hC
      have hylu493 := (unhide HBX).lt
      clear hC hk HCQ HXA
      refine hK.out _ _ ((unhide HBX).cell (i := 1) rfl) (fun hHeld => ?_)
      clear hK K
      try simp only [Act.put, List.setIfInBounds_toArray, List.set_cons_zero, List.set_cons_succ]
      refine wpAnyH_ready (rs := [5]) (by kernel_rfl) (by simp) ?_
      refine AllReadyH.cons rfl (fun K hK => ?_) AllReadyH.nil
      go_simp
      obtain ⟨gb, eg⟩ : ∃ z, z = u493.heap.size := ⟨_, rfl⟩
      obtain ⟨u5934, ew⟩ : ∃ z, z = u493.alloc (.cells #[.int .i64 x0] 3) := ⟨_, rfl⟩
      have hb : Below u493.heap.size u493 u5934 := by rw [ew]; exact Below.alloc1 _ _
      have HB1 : Hid (RowB 3 1 eI B u5934 (some ⟨gb, 0, none⟩) 1 1 [x0]) := by rw [ew, eg]; exact rowB_one _ _ _ (by omega)
      rw [← ew, ← eg]
      replace HW := hide ((unhide HW).trans (kept_of_below hb))
      replace HC := hide ((unhide HC).below hb)
      replace HR := hide ((unhide HR).step hb)
      replace HBX := hide ((unhide HBX).step hb)
      replace HY := hide ((unhide HY).below hb)
      have hylu5934 := (unhide HBX).lt
      have hgbs : gy < gb := by rw [eg]; exact hylu493
      have hgbl : gb < u5934.heap.size := by rw [eg, ew, World.size_alloc]; omega
      clear hb eg ew
      refine hK.out _ _ ((unhide HBX).cell (i := 1) rfl) (fun hHeld => ?_)
      clear hK K
      try simp only [Act.put, List.setIfInBounds_toArray, List.set_cons_zero, List.set_cons_succ]
      refine wpAnyH_ready (rs := [10]) (by kernel_rfl) (by simp) ?_
      refine AllReadyH.cons rfl (fun K hK => ?_) AllReadyH.nil
      have hrow := (unhide HY).row 0 hR0
      rw [← unhide HML, ← unhide HAO] at hrow
      have hrecs := hrow.recs (by omega)
      refine step_appTo tyI (by rfl) (.tmp 26) (.tmp 30) (by rfl) B gb 1 1 [x0] (by rfl) (unhide HB1) (by omega) (by omega) ao ml (C 0) (R.getD 0 []) (by rfl) hrecs (by omega) ?_
      intro g1 c1 w8 hr1 hk8 hor
      have hgb1 : g1 ≠ g := by rcases hor with e | e <;> omega
      have hg1s : g1 < w8.heap.size := by
        rcases hr1.parts (by omega) with ⟨e2, _⟩ | ⟨b', e2, _, h2, _⟩
        · cases e2
        · simp only [Option.some.injEq, Addr.mk.injEq, and_true] at e2; omega
      have HY8 := hide ((unhide HY).keptA hk8 (fun e => by omega) (fun s b hs e1 e2 => by have := unhide HAU s b hs e1; omega))
      have hml : ([x0] ++ R.getD 0 []).length = 1 + ml := by rw [List.length_append, ← unhide HML]; rfl
      rw [← hml] at hr1
      have HYN := hide ((unhide HY8).put' hR0 (Kept.refl _ _) hr1 (fun t ht _ e => by have := unhide HAU t _ ht e; rcases hor with e2 | e2 <;> omega))
      rw [hml] at HYN
      unfold sltV at HYN
      simp only [Option.map_some] at HYN
      have ts8 := (unhide HY8).top.cell (topsR_get A C R hR0)
      have tf8 := (unhide HY8).top.frozen 0
      unfold sltV at ts8
      have HBX8 := hide ((unhide HBX).kept hk8 (fun e => by omega))
      have HR8 := hide ((unhide HR).kept hk8 (fun e => by omega))
      have HC8 := hide ((unhide HC).kept hk8 (fun b e => by omega))
      have HW8 := hide (keptNew (unhide HW) hk8 (fun b e => by omega))
      clear hr1 hk8 hor hrow hrecs hml HB1 HY HBX HR HC HW
      refine hK.out _ _ ((unhide HBX8).cell (i := 1) rfl) (fun hHeld => ?_)
      clear hK K
      try simp only [Act.put, List.setIfInBounds_toArray]
      refine wpAnyH_take (i := 11) (v := ?_) rfl (by kernel_rfl) (by kernel_rfl) (by kernel_rfl) (fun _ _ _ h => h) (Or.inl ⟨by rfl, ?_⟩) (by assumption) ?_
      rotate_left
      · intro wy hSw
        have hS0 := hSw
        go_simp
        try with_reducible rfl
      try simp only [Act.put, List.getElem_toArray, List.getElem_cons_succ, List.getElem_cons_zero, List.setIfInBounds_toArray, List.set_cons_zero, List.set_cons_succ]
      refine wpAnyH_ready (rs := [12]) (by kernel_rfl) (by simp) ?_
      refine AllReadyH.cons rfl (fun K hK => ?_) AllReadyH.nil
      have hKS := (Kept.refl (fun b => b = g) w8).setCell (p := ⟨g, 0, none⟩) rfl (.slice (some ⟨g1, 0, none⟩) (1 + ml) c1)
      have HBX := hide ((unhide HBX8).kept hKS (fun e => by omega))
      have HR := hide ((unhide HR8).kept hKS (fun e => by omega))
      have HC := hide ((unhide HC8).kept hKS (fun b e => by omega))
      have HW := hide (keptNew (unhide HW8) hKS (fun b e => by omega))
      clear hKS HBX8 HR8 HC8 HW8 HY8
      go_simp
      clear ts8 tf8
      obtain ⟨w9, ew9⟩ : ∃ z, z = w8.setCell ⟨g, 0, none⟩ (.slice (some ⟨g1, 0, none⟩) (1 + ml) c1) := ⟨_, rfl⟩
      rw [← ew9] at HYN HR HC HW HBX ⊢
      clear ew9
      refine hK.out _ _ ((unhide HBX).cell (i := 1) rfl) (fun hHeld => ?_)
      clear hK K
      try simp only [Act.put, List.setIfInBounds_toArray, List.set_cons_zero, List.set_cons_succ]
      refine wpAnyH_done (by kernel_rfl) ?_ _
      obtain ⟨R9, eR9⟩ : ∃ z, z = R.set 0 ([x0] ++ R.getD 0 []) := ⟨_, rfl⟩
      have hR9 : R9.length = k := by rw [eR9, List.length_set]; exact hRk
      have HR9 : Hid (∀ s, s < R9.length → (R9.getD s []).length ≤ 100) := fun s hs => by
        rw [eR9]
        by_cases e : s = 0
        · subst e; rw [rowset_self hR0, List.length_append, ← unhide HML]; show 1 + ml ≤ 100; omega
        · rw [rowset_ne e]; have := unhide HRL s (by omega); omega
      rw [← eR9] at HYN
      clear eR9
      go_upto_region 11 with (fail)
      have HRW := hide fun (P : Nat → Prop) (W' : World) (hk : Kept (fun b => b = gr ∨ P b) w9 W') (hP : ∀ b, w.heap.size ≤ b → ¬ P b) => (show RowsIn W' (.slice (some ⟨g, 0, none⟩) k k) R9 from by have h9 := ((unhide HYN).kept hk (fun e => e.elim (fun e => by omega) (hP g (by omega))) (fun b h1 _ e => e.elim (fun e => by omega) (hP b (by omega)))).rows (c := k) (by omega) (by unfold maxLen; omega); rw [hR9] at h9; exact h9)
      have b0 := (unhide HBX).cell (i := 0) rfl
      have b1 := (unhide HBX).cell (i := 1) rfl
      have r0 := (unhide HR).cell (i := 0) rfl
      have r1 := (unhide HR).cell (i := 1) rfl
      have rf := (unhide HR).frozen
      have HN := hide (((unhide HR).set 0 (.int .i64 H) (by simp)).set 1 (.slice (some ⟨g, 0, none⟩) k k) (by simp))
      have hKS := ((Kept.refl (fun b => b = gr) w9).setCell (p := ⟨gr, 0, none⟩) rfl (.int .i64 H)).setCell (p := ⟨gr, 1, none⟩) rfl (.slice (some ⟨g, 0, none⟩) k k)
      have HCN := hide ((unhide HC).kept hKS (fun b e => by omega))
      have HWN := hide (keptNew (unhide HW) hKS (fun b e => by omega))
      have HRN := hide fun (P : Nat → Prop) (W' : World) (hk : Kept P _ W') (hP : ∀ b, w.heap.size ≤ b → ¬ P b) => unhide HRW P W' ((hKS.mono (fun b _ hb => Or.inl hb)).trans (hk.mono (fun b _ hb => Or.inr hb))) hP
      clear hKS HW HC HR HBX
      go_wp2
      have k0 := (unhide HN).cell (i := 0) rfl
      have k1 := (unhide HN).cell (i := 1) rfl
      refine bodyPost_ret (v := .agg #[.int .i64 H, .slice (some ⟨g, 0, none⟩) k k]) (by simp [results, Try.results56, go_sem, k0, k1]) rfl (dAns_of _ _ _ _ _ (unhide HRN) (by omega) (unhide HR9) (unhide HCN) (unhide HWN))
  have d1 : (z == 1) = false := by simpa using z1
  by_cases z2 : z = 2
  · subst z2
    clear d0 d1
    have b1 := (unhide HBX).cell (i := 1) rfl
    have bf := (unhide HBX).frozen 1
    have HBN := hide ((unhide HBX).set 1 (.slice none 0 0) (by simp))
    have hKS := (Kept.refl (fun b => b = gy) w5).setCell (p := ⟨gy, 1, none⟩) rfl (.slice none 0 0)
    replace HR := hide ((unhide HR).kept hKS (fun e => by omega))
    replace HC := hide ((unhide HC).kept hKS (fun b e => by omega))
    replace HW := hide (keptNew (unhide HW) hKS (fun b e => by omega))
    clear hKS HBX
    have HBX := HBN
    clear HBN HY
    go_upto_region 11 with (fail)
    obtain ⟨w7, ew7⟩ : ∃ z, z = w5.setCell ⟨gy, 1, none⟩ (.slice none 0 0) := ⟨_, rfl⟩
    rw [← ew7] at HR HC HW HBX ⊢
    clear ew7 b1 bf
    have HRW := hide fun (P : Nat → Prop) (W' : World) (_ : Kept (fun b => b = gr ∨ P b) w7 W') (_ : ∀ b, w.heap.size ≤ b → ¬ P b) => (show RowsIn W' (.slice none 0 0) [] from ⟨none, 0, rfl, Nat.le_refl _, Nat.zero_le _, fun i hi => absurd hi (Nat.not_lt_zero _)⟩)
    have b0 := (unhide HBX).cell (i := 0) rfl
    have b1 := (unhide HBX).cell (i := 1) rfl
    have r0 := (unhide HR).cell (i := 0) rfl
    have r1 := (unhide HR).cell (i := 1) rfl
    have rf := (unhide HR).frozen
    have HN := hide (((unhide HR).set 0 (.int .i64 H) (by simp)).set 1 (.slice none 0 0) (by simp))
    have hKS := ((Kept.refl (fun b => b = gr) w7).setCell (p := ⟨gr, 0, none⟩) rfl (.int .i64 H)).setCell (p := ⟨gr, 1, none⟩) rfl (.slice none 0 0)
    have HCN := hide ((unhide HC).kept hKS (fun b e => by omega))
    have HWN := hide (keptNew (unhide HW) hKS (fun b e => by omega))
    have HRN := hide fun (P : Nat → Prop) (W' : World) (hk : Kept P _ W') (hP : ∀ b, w.heap.size ≤ b → ¬ P b) => unhide HRW P W' ((hKS.mono (fun b _ hb => Or.inl hb)).trans (hk.mono (fun b _ hb => Or.inr hb))) hP
    clear hKS HW HC HR HBX
    go_wp2
    have k0 := (unhide HN).cell (i := 0) rfl
    have k1 := (unhide HN).cell (i := 1) rfl
    refine bodyPost_ret (v := .agg #[.int .i64 H, .slice none 0 0]) (by simp [results, Try.results56, go_sem, k0, k1]) rfl (dAns_of _ _ _ _ _ (unhide HRN) (by simp) (fun s hs => by simp at hs) (unhide HCN) (unhide HWN))
  have d2 : (z == 2) = false := by simpa using z2
  by_cases z3 : z = 3
  · subst z3
    clear d0 d1 d2
    obtain ⟨i0, hinf, hzz⟩ := Option.map_eq_some_iff.1 Try.info30
    simp only [Prod.mk.injEq] at hzz
    obtain ⟨hz0, hz1, hz2⟩ := hzz
    have q1 : IntKind.i64.wrap ((12 : Int) - (k : Int)) = (12 : Int) - (k : Int) := by rw [IntKind.wrap_i64]; omega
    go_upto_region 10 with (fail)
    obtain ⟨wd, ewd⟩ : ∃ z, z = w5.drew := ⟨_, rfl⟩
    have hb : Below w5.heap.size w5 wd := by rw [ewd]; exact (Below.refl _ _).drew
    replace HW := hide ((unhide HW).trans (kept_of_below hb))
    replace HC := hide ((unhide HC).below hb)
    replace HR := hide ((unhide HR).step hb)
    replace HBX := hide ((unhide HBX).step hb)
    replace HY := hide ((unhide HY).below hb)
    clear hb
    refine wp_region_held_drew (S := fun w' => w'.cell? ⟨gy, 0, none⟩ = some (.int .i64 H)) (by kernel_rfl) (by rw [← ewd]; exact (unhide HBX).cell (i := 0) rfl) (fun hHeld => ?_)
    rw [← ewd] at hHeld ⊢
    clear ewd
    refine wpAnyH_take (i := 0) (v := ?_) rfl (by kernel_rfl) (by kernel_rfl) (by kernel_rfl) (fun _ _ _ h => h) (Or.inl ⟨by rfl, ?_⟩) (by assumption) ?_
    rotate_left
    · intro wy hSw
      have hS0 := hSw
      go_simp
      try with_reducible rfl
    try simp only [Act.put, List.getElem_toArray, List.getElem_cons_zero, List.setIfInBounds_toArray, List.set_cons_zero, List.set_cons_succ]
    refine wpAnyH_take (i := 2) (v := ?_) rfl (by kernel_rfl) (by kernel_rfl) (by kernel_rfl) (fun _ _ _ h => h) (Or.inl ⟨by rfl, ?_⟩) (by assumption) ?_
    rotate_left
    · intro wy hSw
      have hS0 := hSw
      go_simp
      try with_reducible rfl
    try simp only [Act.put, List.getElem_toArray, List.getElem_cons_succ, List.getElem_cons_zero, List.setIfInBounds_toArray, List.set_cons_zero, List.set_cons_succ]
    refine wpAnyH_take (i := 6) (v := ?_) rfl (by kernel_rfl) (by kernel_rfl) (by kernel_rfl) (fun _ _ _ h => h) (Or.inl ⟨by rfl, ?_⟩) (by assumption) ?_
    rotate_left
    · intro wy hSw
      have hS0 := hSw
      go_simp
      try with_reducible rfl
    try simp only [Act.put, List.getElem_toArray, List.getElem_cons_succ, List.getElem_cons_zero, List.setIfInBounds_toArray, List.set_cons_zero, List.set_cons_succ]
    refine wpAnyH_ready (rs := [1, 3, 7]) (by kernel_rfl) (by simp) ?_
    refine AllReadyH.cons rfl (fun K hK => ?_) (AllReadyH.cons rfl (fun K hK => ?_) (AllReadyH.cons rfl (fun K hK => ?_) (AllReadyH.nil)))
    · have b1 := (unhide HBX).cell (i := 1) rfl
      go_simp
      clear b1
      refine hK.out _ _ ((unhide HBX).cell (i := 0) rfl) (fun hHeld => ?_)
      clear hK K
      try simp only [Act.put, List.setIfInBounds_toArray, List.set_cons_zero, List.set_cons_succ]
      refine wpAnyH_ready (rs := [3, 7]) (by kernel_rfl) (by simp) ?_
      refine AllReadyH.cons rfl (fun K hK => ?_) (AllReadyH.cons rfl (fun K hK => ?_) (AllReadyH.nil))
      · have b1 := (unhide HBX).cell (i := 1) rfl
        go_simp
        clear b1
        refine hK.out _ _ ((unhide HBX).cell (i := 0) rfl) (fun hHeld => ?_)
        clear hK K
        try simp only [Act.put, List.setIfInBounds_toArray, List.set_cons_zero, List.set_cons_succ]
        refine wpAnyH_take (i := 4) (v := ?_) rfl (by kernel_rfl) (by kernel_rfl) (by kernel_rfl) (fun _ _ _ h => h) (Or.inl ⟨by rfl, ?_⟩) (by assumption) ?_
        rotate_left
        · intro wy hSw
          have hS0 := hSw
          go_simp
          try with_reducible rfl
        try simp only [Act.put, List.getElem_toArray, List.getElem_cons_succ, List.getElem_cons_zero, List.setIfInBounds_toArray, List.set_cons_zero, List.set_cons_succ]
        refine wpAnyH_take (i := 5) (v := ?_) rfl (by kernel_rfl) (by kernel_rfl) (by kernel_rfl) (fun _ _ _ h => h) (Or.inl ⟨by rfl, ?_⟩) (by assumption) ?_
        rotate_left
        · intro wy hSw
          have hS0 := hSw
          go_simp
          try with_reducible rfl
        try simp only [Act.put, List.getElem_toArray, List.getElem_cons_succ, List.getElem_cons_zero, List.setIfInBounds_toArray, List.set_cons_zero, List.set_cons_succ]
        refine wpAnyH_ready (rs := [7]) (by kernel_rfl) (by simp) ?_
        refine AllReadyH.cons rfl (fun K hK => ?_) (AllReadyH.nil)
        go_simp
        have HCQ := hide (l1BelowV_any cb n v 2 wd (unhide HC) hn (by omega) (by omega))
        refine (unhide HCQ).mono ?_
        rintro e u713 ⟨d, rfl, hd0, hd1, hC, hk⟩
        replace HW := hide ((unhide HW).trans hk)
        replace HR := hide ((unhide HR).kept hk (fun e => by omega))
        replace HBX := hide ((unhide HBX).kept hk (fun e => by omega))
        replace HY := hide ((unhide HY).kept hk (fun e => by omega) (fun b h1 h2 e => by omega))
        replace HC := hide hC
        clear hC hk HCQ
        obtain ⟨mm, emm⟩ : ∃ z : Nat, (12 : Int) - (k : Int) + d = (z : Int) := ⟨((12 : Int) - (k : Int) + d).toNat, by omega⟩
        have hmm : 7 ≤ mm ∧ mm ≤ 12 := by omega
        have q2 : IntKind.i64.wrap ((12 : Int) - (k : Int) + d) = (mm : Int) := by rw [IntKind.wrap_i64]; omega
        clear emm
        refine hK.out _ _ ((unhide HBX).cell (i := 0) rfl) (fun hHeld => ?_)
        clear hK K
        try simp only [Act.put, List.setIfInBounds_toArray, List.set_cons_zero, List.set_cons_succ]
        refine wpAnyH_take (i := 8) (v := ?_) rfl (by kernel_rfl) (by kernel_rfl) (by kernel_rfl) (fun _ _ _ h => h) (Or.inl ⟨by rfl, ?_⟩) (by assumption) ?_
        rotate_left
        · intro wy hSw
          have hS0 := hSw
          go_simp
          try with_reducible rfl
        try simp only [Act.put, List.getElem_toArray, List.getElem_cons_succ, List.getElem_cons_zero, List.setIfInBounds_toArray, List.set_cons_zero, List.set_cons_succ]
        refine wpAnyH_ready (rs := [9]) (by kernel_rfl) (by simp) ?_
        refine AllReadyH.cons rfl (fun K hK => ?_) AllReadyH.nil
        have hap := run_append_zeros (P := Try.prog) u713 24 3 24 30 i0 (.slice none 0 0) Try.underlying24 Try.underlying3 hinf hz0 ⟨g, 0, none⟩ k k (topsR A C R) (by rw [topsR_len, hRk, hz1, Nat.mul_one]) (fun j u hj => by rw [show (⟨g, 0, none⟩ : Addr).add j = ⟨g, j, none⟩ from by cases j <;> simp [Addr.add]]; exact (unhide HY).top.cell hj) mm (by omega) (by omega) (by omega) (by omega) (by omega) (by omega) (by omega)
        have hcap := grownCap_ge u713 (k + mm) k 30
        have hmx := grownCap_le_maxLen u713 (k + mm) k 30 (by unfold maxLen; omega)
        obtain ⟨gc, egc⟩ : ∃ z, z = grownCap u713 (k + mm) k 30 := ⟨_, rfl⟩
        rw [zeroC, zeroC] at hap
        rw [← egc] at hap hcap hmx
        clear egc
        have hb := (Below.refl u713.heap.size u713).drew.trans (Below.alloc1 u713.drew (.cells ((topsR A C R).toArray ++ (List.replicate mm (Value.slice none 0 0)).toArray ++ (List.replicate (gc - (k + mm)) (Value.slice none 0 0)).toArray) 30))
        have HT := hide (ownV_alloc u713.drew ((topsR A C R).toArray ++ (List.replicate mm (Value.slice none 0 0)).toArray ++ (List.replicate (gc - (k + mm)) (Value.slice none 0 0)).toArray) 30)
        refine step_appZ (by rfl) (.tmp 39) (.tmp 46) 24 3 (by rfl) _ _ _ _ (by rfl) (by rfl) hap ?_
        clear hap
        obtain ⟨wa, ewa⟩ : ∃ z, z = u713.drew.alloc (.cells ((topsR A C R).toArray ++ (List.replicate mm (Value.slice none 0 0)).toArray ++ (List.replicate (gc - (k + mm)) (Value.slice none 0 0)).toArray) 30) := ⟨_, rfl⟩
        obtain ⟨gt, egt⟩ : ∃ z, z = u713.heap.size := ⟨_, rfl⟩
        skip
        try simp only [World.size_drew] at HT hb
        rw [← ewa] at HT hb ⊢
        rw [← egt] at HT ⊢
        have hgt : gy < gt := by rw [egt]; exact (unhide HBX).lt
        replace HW := hide ((unhide HW).trans (kept_of_below hb))
        replace HC := hide ((unhide HC).below hb)
        replace HR := hide ((unhide HR).step hb)
        replace HBX := hide ((unhide HBX).step hb)
        replace HY := hide ((unhide HY).below hb)
        clear hb ewa egt
        refine hK.out _ _ ((unhide HBX).cell (i := 0) rfl) (fun hHeld => ?_)
        clear hK K
        try simp only [Act.put, List.setIfInBounds_toArray]
        refine wpAnyH_take (i := 10) (v := ?_) rfl (by kernel_rfl) (by kernel_rfl) (by kernel_rfl) (fun _ _ _ h => h) (Or.inl ⟨by rfl, ?_⟩) (by assumption) ?_
        rotate_left
        · intro wy hSw
          have hS0 := hSw
          go_simp
          try with_reducible rfl
        try simp only [Act.put, List.getElem_toArray, List.getElem_cons_succ, List.getElem_cons_zero, List.setIfInBounds_toArray, List.set_cons_zero, List.set_cons_succ]
        refine wpAnyH_ready (rs := [11]) (by kernel_rfl) (by simp) ?_
        refine AllReadyH.cons rfl (fun K hK => ?_) AllReadyH.nil
        have bf := (unhide HBX).frozen 1
        have b1 := (unhide HBX).cell (i := 1) rfl
        have HBN := hide ((unhide HBX).set 1 (.slice (some ⟨gt, 0, none⟩) (k + mm) gc) (by simp))
        have hKS := (Kept.refl (fun b => b = gy) wa).setCell (p := ⟨gy, 1, none⟩) rfl (.slice (some ⟨gt, 0, none⟩) (k + mm) gc)
        replace HY := hide ((unhide HY).keptA hKS (fun e => by omega) (fun s b hs e1 e2 => by have := unhide HAU s b hs e1; omega))
        replace HT := hide ((unhide HT).kept hKS (fun e => by omega))
        replace HR := hide ((unhide HR).kept hKS (fun e => by omega))
        replace HC := hide ((unhide HC).kept hKS (fun b e => by omega))
        replace HW := hide (keptNew (unhide HW) hKS (fun b e => by omega))
        clear hKS HBX
        have HBX := HBN
        clear HBN
        go_simp
        clear b1 bf
        obtain ⟨w9, ew9⟩ : ∃ z, z = wa.setCell ⟨gy, 1, none⟩ (.slice (some ⟨gt, 0, none⟩) (k + mm) gc) := ⟨_, rfl⟩
        rw [← ew9] at HY HT HR HC HW HBX ⊢
        clear ew9
        refine hK.out _ _ ((unhide HBX).cell (i := 0) rfl) (fun hHeld => ?_)
        clear hK K
        try simp only [Act.put, List.setIfInBounds_toArray, List.set_cons_zero, List.set_cons_succ]
        refine wpAnyH_done (by kernel_rfl) ?_ _
        go_upto_region 11 with (fail)
        have HRW := hide fun (P : Nat → Prop) (W' : World) (hk : Kept (fun b => b = gr ∨ P b) w9 W') (hP : ∀ b, w.heap.size ≤ b → ¬ P b) => (show RowsIn W' (.slice (some ⟨gt, 0, none⟩) (k + mm) gc) (R ++ List.replicate mm []) from by have h8 := (unhide HY).kept hk (fun e => e.elim (fun e => by omega) (hP g (by omega))) (fun b h1 _ e => e.elim (fun e => by omega) (hP b (by omega))); have h7 := (unhide HT).kept hk (fun e => e.elim (fun e => by omega) (hP gt (by omega))); have h9 := rows_more (R := R) (vs := topsR A C R) (m := mm) (c := gc) (by rw [Array.toList_append, Array.toList_append] at h7; exact h7) (topsR_len A C R) (fun s hs => ⟨_, topsR_get A C R hs, recs_ints ((h8.row s hs).recs (by omega))⟩) (by omega) hmx; rw [hRk] at h9; exact h9)
        have b0 := (unhide HBX).cell (i := 0) rfl
        have b1 := (unhide HBX).cell (i := 1) rfl
        have r0 := (unhide HR).cell (i := 0) rfl
        have r1 := (unhide HR).cell (i := 1) rfl
        have rf := (unhide HR).frozen
        have HN := hide (((unhide HR).set 0 (.int .i64 H) (by simp)).set 1 (.slice (some ⟨gt, 0, none⟩) (k + mm) gc) (by simp))
        have hKS := ((Kept.refl (fun b => b = gr) w9).setCell (p := ⟨gr, 0, none⟩) rfl (.int .i64 H)).setCell (p := ⟨gr, 1, none⟩) rfl (.slice (some ⟨gt, 0, none⟩) (k + mm) gc)
        have HCN := hide ((unhide HC).kept hKS (fun b e => by omega))
        have HWN := hide (keptNew (unhide HW) hKS (fun b e => by omega))
        have HRN := hide fun (P : Nat → Prop) (W' : World) (hk : Kept P _ W') (hP : ∀ b, w.heap.size ≤ b → ¬ P b) => unhide HRW P W' ((hKS.mono (fun b _ hb => Or.inl hb)).trans (hk.mono (fun b _ hb => Or.inr hb))) hP
        clear hKS HW HC HR HBX
        go_wp2
        have k0 := (unhide HN).cell (i := 0) rfl
        have k1 := (unhide HN).cell (i := 1) rfl
        refine bodyPost_ret (v := .agg #[.int .i64 H, .slice (some ⟨gt, 0, none⟩) (k + mm) gc]) (by simp [results, Try.results56, go_sem, k0, k1]) rfl (dAns_of _ _ _ _ _ (unhide HRN) (by rw [List.length_append, List.length_replicate]; omega) (len_more fun s hs => Nat.le_trans (unhide HRL s hs) (by omega)) (unhide HCN) (unhide HWN))
      · go_simp
        have HCQ := hide (l1BelowV_any cb n v 2 wd (unhide HC) hn (by omega) (by omega))
        refine (unhide HCQ).mono ?_
        rintro e u71 ⟨d, rfl, hd0, hd1, hC, hk⟩
        replace HW := hide ((unhide HW).trans hk)
        replace HR := hide ((unhide HR).kept hk (fun e => by omega))
        replace HBX := hide ((unhide HBX).kept hk (fun e => by omega))
        replace HY := hide ((unhide HY).kept hk (fun e => by omega) (fun b h1 h2 e => by omega))
        replace HC := hide hC
        clear hC hk HCQ
        obtain ⟨mm, emm⟩ : ∃ z : Nat, (12 : Int) - (k : Int) + d = (z : Int) := ⟨((12 : Int) - (k : Int) + d).toNat, by omega⟩
        have hmm : 7 ≤ mm ∧ mm ≤ 12 := by omega
        have q2 : IntKind.i64.wrap ((12 : Int) - (k : Int) + d) = (mm : Int) := by rw [IntKind.wrap_i64]; omega
        clear emm
        refine hK.out _ _ ((unhide HBX).cell (i := 0) rfl) (fun hHeld => ?_)
        clear hK K
        try simp only [Act.put, List.setIfInBounds_toArray, List.set_cons_zero, List.set_cons_succ]
        refine wpAnyH_ready (rs := [3]) (by kernel_rfl) (by simp) ?_
        refine AllReadyH.cons rfl (fun K hK => ?_) (AllReadyH.nil)
        have b1 := (unhide HBX).cell (i := 1) rfl
        go_simp
        clear b1
        refine hK.out _ _ ((unhide HBX).cell (i := 0) rfl) (fun hHeld => ?_)
        clear hK K
        try simp only [Act.put, List.setIfInBounds_toArray, List.set_cons_zero, List.set_cons_succ]
        refine wpAnyH_take (i := 4) (v := ?_) rfl (by kernel_rfl) (by kernel_rfl) (by kernel_rfl) (fun _ _ _ h => h) (Or.inl ⟨by rfl, ?_⟩) (by assumption) ?_
        rotate_left
        · intro wy hSw
          have hS0 := hSw
          go_simp
          try with_reducible rfl
        try simp only [Act.put, List.getElem_toArray, List.getElem_cons_succ, List.getElem_cons_zero, List.setIfInBounds_toArray, List.set_cons_zero, List.set_cons_succ]
        refine wpAnyH_take (i := 5) (v := ?_) rfl (by kernel_rfl) (by kernel_rfl) (by kernel_rfl) (fun _ _ _ h => h) (Or.inl ⟨by rfl, ?_⟩) (by assumption) ?_
        rotate_left
        · intro wy hSw
          have hS0 := hSw
          go_simp
          try with_reducible rfl
        try simp only [Act.put, List.getElem_toArray, List.getElem_cons_succ, List.getElem_cons_zero, List.setIfInBounds_toArray, List.set_cons_zero, List.set_cons_succ]
        refine wpAnyH_take (i := 8) (v := ?_) rfl (by kernel_rfl) (by kernel_rfl) (by kernel_rfl) (fun _ _ _ h => h) (Or.inl ⟨by rfl, ?_⟩) (by assumption) ?_
        rotate_left
        · intro wy hSw
          have hS0 := hSw
          go_simp
          try with_reducible rfl
        try simp only [Act.put, List.getElem_toArray, List.getElem_cons_succ, List.getElem_cons_zero, List.setIfInBounds_toArray, List.set_cons_zero, List.set_cons_succ]
        refine wpAnyH_ready (rs := [9]) (by kernel_rfl) (by simp) ?_
        refine AllReadyH.cons rfl (fun K hK => ?_) AllReadyH.nil
        have hap := run_append_zeros (P := Try.prog) u71 24 3 24 30 i0 (.slice none 0 0) Try.underlying24 Try.underlying3 hinf hz0 ⟨g, 0, none⟩ k k (topsR A C R) (by rw [topsR_len, hRk, hz1, Nat.mul_one]) (fun j u hj => by rw [show (⟨g, 0, none⟩ : Addr).add j = ⟨g, j, none⟩ from by cases j <;> simp [Addr.add]]; exact (unhide HY).top.cell hj) mm (by omega) (by omega) (by omega) (by omega) (by omega) (by omega) (by omega)
        have hcap := grownCap_ge u71 (k + mm) k 30
        have hmx := grownCap_le_maxLen u71 (k + mm) k 30 (by unfold maxLen; omega)
        obtain ⟨gc, egc⟩ : ∃ z, z = grownCap u71 (k + mm) k 30 := ⟨_, rfl⟩
        rw [zeroC, zeroC] at hap
        rw [← egc] at hap hcap hmx
        clear egc
        have hb := (Below.refl u71.heap.size u71).drew.trans (Below.alloc1 u71.drew (.cells ((topsR A C R).toArray ++ (List.replicate mm (Value.slice none 0 0)).toArray ++ (List.replicate (gc - (k + mm)) (Value.slice none 0 0)).toArray) 30))
        have HT := hide (ownV_alloc u71.drew ((topsR A C R).toArray ++ (List.replicate mm (Value.slice none 0 0)).toArray ++ (List.replicate (gc - (k + mm)) (Value.slice none 0 0)).toArray) 30)
        refine step_appZ (by rfl) (.tmp 39) (.tmp 46) 24 3 (by rfl) _ _ _ _ (by rfl) (by rfl) hap ?_
        clear hap
        obtain ⟨wa, ewa⟩ : ∃ z, z = u71.drew.alloc (.cells ((topsR A C R).toArray ++ (List.replicate mm (Value.slice none 0 0)).toArray ++ (List.replicate (gc - (k + mm)) (Value.slice none 0 0)).toArray) 30) := ⟨_, rfl⟩
        obtain ⟨gt, egt⟩ : ∃ z, z = u71.heap.size := ⟨_, rfl⟩
        skip
        try simp only [World.size_drew] at HT hb
        rw [← ewa] at HT hb ⊢
        rw [← egt] at HT ⊢
        have hgt : gy < gt := by rw [egt]; exact (unhide HBX).lt
        replace HW := hide ((unhide HW).trans (kept_of_below hb))
        replace HC := hide ((unhide HC).below hb)
        replace HR := hide ((unhide HR).step hb)
        replace HBX := hide ((unhide HBX).step hb)
        replace HY := hide ((unhide HY).below hb)
        clear hb ewa egt
        refine hK.out _ _ ((unhide HBX).cell (i := 0) rfl) (fun hHeld => ?_)
        clear hK K
        try simp only [Act.put, List.setIfInBounds_toArray]
        refine wpAnyH_take (i := 10) (v := ?_) rfl (by kernel_rfl) (by kernel_rfl) (by kernel_rfl) (fun _ _ _ h => h) (Or.inl ⟨by rfl, ?_⟩) (by assumption) ?_
        rotate_left
        · intro wy hSw
          have hS0 := hSw
          go_simp
          try with_reducible rfl
        try simp only [Act.put, List.getElem_toArray, List.getElem_cons_succ, List.getElem_cons_zero, List.setIfInBounds_toArray, List.set_cons_zero, List.set_cons_succ]
        refine wpAnyH_ready (rs := [11]) (by kernel_rfl) (by simp) ?_
        refine AllReadyH.cons rfl (fun K hK => ?_) AllReadyH.nil
        have bf := (unhide HBX).frozen 1
        have b1 := (unhide HBX).cell (i := 1) rfl
        have HBN := hide ((unhide HBX).set 1 (.slice (some ⟨gt, 0, none⟩) (k + mm) gc) (by simp))
        have hKS := (Kept.refl (fun b => b = gy) wa).setCell (p := ⟨gy, 1, none⟩) rfl (.slice (some ⟨gt, 0, none⟩) (k + mm) gc)
        replace HY := hide ((unhide HY).keptA hKS (fun e => by omega) (fun s b hs e1 e2 => by have := unhide HAU s b hs e1; omega))
        replace HT := hide ((unhide HT).kept hKS (fun e => by omega))
        replace HR := hide ((unhide HR).kept hKS (fun e => by omega))
        replace HC := hide ((unhide HC).kept hKS (fun b e => by omega))
        replace HW := hide (keptNew (unhide HW) hKS (fun b e => by omega))
        clear hKS HBX
        have HBX := HBN
        clear HBN
        go_simp
        clear b1 bf
        obtain ⟨w9, ew9⟩ : ∃ z, z = wa.setCell ⟨gy, 1, none⟩ (.slice (some ⟨gt, 0, none⟩) (k + mm) gc) := ⟨_, rfl⟩
        rw [← ew9] at HY HT HR HC HW HBX ⊢
        clear ew9
        refine hK.out _ _ ((unhide HBX).cell (i := 0) rfl) (fun hHeld => ?_)
        clear hK K
        try simp only [Act.put, List.setIfInBounds_toArray, List.set_cons_zero, List.set_cons_succ]
        refine wpAnyH_done (by kernel_rfl) ?_ _
        go_upto_region 11 with (fail)
        have HRW := hide fun (P : Nat → Prop) (W' : World) (hk : Kept (fun b => b = gr ∨ P b) w9 W') (hP : ∀ b, w.heap.size ≤ b → ¬ P b) => (show RowsIn W' (.slice (some ⟨gt, 0, none⟩) (k + mm) gc) (R ++ List.replicate mm []) from by have h8 := (unhide HY).kept hk (fun e => e.elim (fun e => by omega) (hP g (by omega))) (fun b h1 _ e => e.elim (fun e => by omega) (hP b (by omega))); have h7 := (unhide HT).kept hk (fun e => e.elim (fun e => by omega) (hP gt (by omega))); have h9 := rows_more (R := R) (vs := topsR A C R) (m := mm) (c := gc) (by rw [Array.toList_append, Array.toList_append] at h7; exact h7) (topsR_len A C R) (fun s hs => ⟨_, topsR_get A C R hs, recs_ints ((h8.row s hs).recs (by omega))⟩) (by omega) hmx; rw [hRk] at h9; exact h9)
        have b0 := (unhide HBX).cell (i := 0) rfl
        have b1 := (unhide HBX).cell (i := 1) rfl
        have r0 := (unhide HR).cell (i := 0) rfl
        have r1 := (unhide HR).cell (i := 1) rfl
        have rf := (unhide HR).frozen
        have HN := hide (((unhide HR).set 0 (.int .i64 H) (by simp)).set 1 (.slice (some ⟨gt, 0, none⟩) (k + mm) gc) (by simp))
        have hKS := ((Kept.refl (fun b => b = gr) w9).setCell (p := ⟨gr, 0, none⟩) rfl (.int .i64 H)).setCell (p := ⟨gr, 1, none⟩) rfl (.slice (some ⟨gt, 0, none⟩) (k + mm) gc)
        have HCN := hide ((unhide HC).kept hKS (fun b e => by omega))
        have HWN := hide (keptNew (unhide HW) hKS (fun b e => by omega))
        have HRN := hide fun (P : Nat → Prop) (W' : World) (hk : Kept P _ W') (hP : ∀ b, w.heap.size ≤ b → ¬ P b) => unhide HRW P W' ((hKS.mono (fun b _ hb => Or.inl hb)).trans (hk.mono (fun b _ hb => Or.inr hb))) hP
        clear hKS HW HC HR HBX
        go_wp2
        have k0 := (unhide HN).cell (i := 0) rfl
        have k1 := (unhide HN).cell (i := 1) rfl
        refine bodyPost_ret (v := .agg #[.int .i64 H, .slice (some ⟨gt, 0, none⟩) (k + mm) gc]) (by simp [results, Try.results56, go_sem, k0, k1]) rfl (dAns_of _ _ _ _ _ (unhide HRN) (by rw [List.length_append, List.length_replicate]; omega) (len_more fun s hs => Nat.le_trans (unhide HRL s hs) (by omega)) (unhide HCN) (unhide HWN))
    · have b1 := (unhide HBX).cell (i := 1) rfl
      go_simp
      clear b1
      refine hK.out _ _ ((unhide HBX).cell (i := 0) rfl) (fun hHeld => ?_)
      clear hK K
      try simp only [Act.put, List.setIfInBounds_toArray, List.set_cons_zero, List.set_cons_succ]
      refine wpAnyH_take (i := 4) (v := ?_) rfl (by kernel_rfl) (by kernel_rfl) (by kernel_rfl) (fun _ _ _ h => h) (Or.inl ⟨by rfl, ?_⟩) (by assumption) ?_
      rotate_left
      · intro wy hSw
        have hS0 := hSw
        go_simp
        try with_reducible rfl
      try simp only [Act.put, List.getElem_toArray, List.getElem_cons_succ, List.getElem_cons_zero, List.setIfInBounds_toArray, List.set_cons_zero, List.set_cons_succ]
      refine wpAnyH_take (i := 5) (v := ?_) rfl (by kernel_rfl) (by kernel_rfl) (by kernel_rfl) (fun _ _ _ h => h) (Or.inl ⟨by rfl, ?_⟩) (by assumption) ?_
      rotate_left
      · intro wy hSw
        have hS0 := hSw
        go_simp
        try with_reducible rfl
      try simp only [Act.put, List.getElem_toArray, List.getElem_cons_succ, List.getElem_cons_zero, List.setIfInBounds_toArray, List.set_cons_zero, List.set_cons_succ]
      refine wpAnyH_ready (rs := [1, 7]) (by kernel_rfl) (by simp) ?_
      refine AllReadyH.cons rfl (fun K hK => ?_) (AllReadyH.cons rfl (fun K hK => ?_) (AllReadyH.nil))
      · have b1 := (unhide HBX).cell (i := 1) rfl
        go_simp
        clear b1
        refine hK.out _ _ ((unhide HBX).cell (i := 0) rfl) (fun hHeld => ?_)
        clear hK K
        try simp only [Act.put, List.setIfInBounds_toArray, List.set_cons_zero, List.set_cons_succ]
        refine wpAnyH_ready (rs := [7]) (by kernel_rfl) (by simp) ?_
        refine AllReadyH.cons rfl (fun K hK => ?_) (AllReadyH.nil)
        go_simp
        have HCQ := hide (l1BelowV_any cb n v 2 wd (unhide HC) hn (by omega) (by omega))
        refine (unhide HCQ).mono ?_
        rintro e u731 ⟨d, rfl, hd0, hd1, hC, hk⟩
        replace HW := hide ((unhide HW).trans hk)
        replace HR := hide ((unhide HR).kept hk (fun e => by omega))
        replace HBX := hide ((unhide HBX).kept hk (fun e => by omega))
        replace HY := hide ((unhide HY).kept hk (fun e => by omega) (fun b h1 h2 e => by omega))
        replace HC := hide hC
        clear hC hk HCQ
        obtain ⟨mm, emm⟩ : ∃ z : Nat, (12 : Int) - (k : Int) + d = (z : Int) := ⟨((12 : Int) - (k : Int) + d).toNat, by omega⟩
        have hmm : 7 ≤ mm ∧ mm ≤ 12 := by omega
        have q2 : IntKind.i64.wrap ((12 : Int) - (k : Int) + d) = (mm : Int) := by rw [IntKind.wrap_i64]; omega
        clear emm
        refine hK.out _ _ ((unhide HBX).cell (i := 0) rfl) (fun hHeld => ?_)
        clear hK K
        try simp only [Act.put, List.setIfInBounds_toArray, List.set_cons_zero, List.set_cons_succ]
        refine wpAnyH_take (i := 8) (v := ?_) rfl (by kernel_rfl) (by kernel_rfl) (by kernel_rfl) (fun _ _ _ h => h) (Or.inl ⟨by rfl, ?_⟩) (by assumption) ?_
        rotate_left
        · intro wy hSw
          have hS0 := hSw
          go_simp
          try with_reducible rfl
        try simp only [Act.put, List.getElem_toArray, List.getElem_cons_succ, List.getElem_cons_zero, List.setIfInBounds_toArray, List.set_cons_zero, List.set_cons_succ]
        refine wpAnyH_ready (rs := [9]) (by kernel_rfl) (by simp) ?_
        refine AllReadyH.cons rfl (fun K hK => ?_) AllReadyH.nil
        have hap := run_append_zeros (P := Try.prog) u731 24 3 24 30 i0 (.slice none 0 0) Try.underlying24 Try.underlying3 hinf hz0 ⟨g, 0, none⟩ k k (topsR A C R) (by rw [topsR_len, hRk, hz1, Nat.mul_one]) (fun j u hj => by rw [show (⟨g, 0, none⟩ : Addr).add j = ⟨g, j, none⟩ from by cases j <;> simp [Addr.add]]; exact (unhide HY).top.cell hj) mm (by omega) (by omega) (by omega) (by omega) (by omega) (by omega) (by omega)
        have hcap := grownCap_ge u731 (k + mm) k 30
        have hmx := grownCap_le_maxLen u731 (k + mm) k 30 (by unfold maxLen; omega)
        obtain ⟨gc, egc⟩ : ∃ z, z = grownCap u731 (k + mm) k 30 := ⟨_, rfl⟩
        rw [zeroC, zeroC] at hap
        rw [← egc] at hap hcap hmx
        clear egc
        have hb := (Below.refl u731.heap.size u731).drew.trans (Below.alloc1 u731.drew (.cells ((topsR A C R).toArray ++ (List.replicate mm (Value.slice none 0 0)).toArray ++ (List.replicate (gc - (k + mm)) (Value.slice none 0 0)).toArray) 30))
        have HT := hide (ownV_alloc u731.drew ((topsR A C R).toArray ++ (List.replicate mm (Value.slice none 0 0)).toArray ++ (List.replicate (gc - (k + mm)) (Value.slice none 0 0)).toArray) 30)
        refine step_appZ (by rfl) (.tmp 39) (.tmp 46) 24 3 (by rfl) _ _ _ _ (by rfl) (by rfl) hap ?_
        clear hap
        obtain ⟨wa, ewa⟩ : ∃ z, z = u731.drew.alloc (.cells ((topsR A C R).toArray ++ (List.replicate mm (Value.slice none 0 0)).toArray ++ (List.replicate (gc - (k + mm)) (Value.slice none 0 0)).toArray) 30) := ⟨_, rfl⟩
        obtain ⟨gt, egt⟩ : ∃ z, z = u731.heap.size := ⟨_, rfl⟩
        skip
        try simp only [World.size_drew] at HT hb
        rw [← ewa] at HT hb ⊢
        rw [← egt] at HT ⊢
        have hgt : gy < gt := by rw [egt]; exact (unhide HBX).lt
        replace HW := hide ((unhide HW).trans (kept_of_below hb))
        replace HC := hide ((unhide HC).below hb)
        replace HR := hide ((unhide HR).step hb)
        replace HBX := hide ((unhide HBX).step hb)
        replace HY := hide ((unhide HY).below hb)
        clear hb ewa egt
        refine hK.out _ _ ((unhide HBX).cell (i := 0) rfl) (fun hHeld => ?_)
        clear hK K
        try simp only [Act.put, List.setIfInBounds_toArray]
        refine wpAnyH_take (i := 10) (v := ?_) rfl (by kernel_rfl) (by kernel_rfl) (by kernel_rfl) (fun _ _ _ h => h) (Or.inl ⟨by rfl, ?_⟩) (by assumption) ?_
        rotate_left
        · intro wy hSw
          have hS0 := hSw
          go_simp
          try with_reducible rfl
        try simp only [Act.put, List.getElem_toArray, List.getElem_cons_succ, List.getElem_cons_zero, List.setIfInBounds_toArray, List.set_cons_zero, List.set_cons_succ]
        refine wpAnyH_ready (rs := [11]) (by kernel_rfl) (by simp) ?_
        refine AllReadyH.cons rfl (fun K hK => ?_) AllReadyH.nil
        have bf := (unhide HBX).frozen 1
        have b1 := (unhide HBX).cell (i := 1) rfl
        have HBN := hide ((unhide HBX).set 1 (.slice (some ⟨gt, 0, none⟩) (k + mm) gc) (by simp))
        have hKS := (Kept.refl (fun b => b = gy) wa).setCell (p := ⟨gy, 1, none⟩) rfl (.slice (some ⟨gt, 0, none⟩) (k + mm) gc)
        replace HY := hide ((unhide HY).keptA hKS (fun e => by omega) (fun s b hs e1 e2 => by have := unhide HAU s b hs e1; omega))
        replace HT := hide ((unhide HT).kept hKS (fun e => by omega))
        replace HR := hide ((unhide HR).kept hKS (fun e => by omega))
        replace HC := hide ((unhide HC).kept hKS (fun b e => by omega))
        replace HW := hide (keptNew (unhide HW) hKS (fun b e => by omega))
        clear hKS HBX
        have HBX := HBN
        clear HBN
        go_simp
        clear b1 bf
        obtain ⟨w9, ew9⟩ : ∃ z, z = wa.setCell ⟨gy, 1, none⟩ (.slice (some ⟨gt, 0, none⟩) (k + mm) gc) := ⟨_, rfl⟩
        rw [← ew9] at HY HT HR HC HW HBX ⊢
        clear ew9
        refine hK.out _ _ ((unhide HBX).cell (i := 0) rfl) (fun hHeld => ?_)
        clear hK K
        try simp only [Act.put, List.setIfInBounds_toArray, List.set_cons_zero, List.set_cons_succ]
        refine wpAnyH_done (by kernel_rfl) ?_ _
        go_upto_region 11 with (fail)
        have HRW := hide fun (P : Nat → Prop) (W' : World) (hk : Kept (fun b => b = gr ∨ P b) w9 W') (hP : ∀ b, w.heap.size ≤ b → ¬ P b) => (show RowsIn W' (.slice (some ⟨gt, 0, none⟩) (k + mm) gc) (R ++ List.replicate mm []) from by have h8 := (unhide HY).kept hk (fun e => e.elim (fun e => by omega) (hP g (by omega))) (fun b h1 _ e => e.elim (fun e => by omega) (hP b (by omega))); have h7 := (unhide HT).kept hk (fun e => e.elim (fun e => by omega) (hP gt (by omega))); have h9 := rows_more (R := R) (vs := topsR A C R) (m := mm) (c := gc) (by rw [Array.toList_append, Array.toList_append] at h7; exact h7) (topsR_len A C R) (fun s hs => ⟨_, topsR_get A C R hs, recs_ints ((h8.row s hs).recs (by omega))⟩) (by omega) hmx; rw [hRk] at h9; exact h9)
        have b0 := (unhide HBX).cell (i := 0) rfl
        have b1 := (unhide HBX).cell (i := 1) rfl
        have r0 := (unhide HR).cell (i := 0) rfl
        have r1 := (unhide HR).cell (i := 1) rfl
        have rf := (unhide HR).frozen
        have HN := hide (((unhide HR).set 0 (.int .i64 H) (by simp)).set 1 (.slice (some ⟨gt, 0, none⟩) (k + mm) gc) (by simp))
        have hKS := ((Kept.refl (fun b => b = gr) w9).setCell (p := ⟨gr, 0, none⟩) rfl (.int .i64 H)).setCell (p := ⟨gr, 1, none⟩) rfl (.slice (some ⟨gt, 0, none⟩) (k + mm) gc)
        have HCN := hide ((unhide HC).kept hKS (fun b e => by omega))
        have HWN := hide (keptNew (unhide HW) hKS (fun b e => by omega))
        have HRN := hide fun (P : Nat → Prop) (W' : World) (hk : Kept P _ W') (hP : ∀ b, w.heap.size ≤ b → ¬ P b) => unhide HRW P W' ((hKS.mono (fun b _ hb => Or.inl hb)).trans (hk.mono (fun b _ hb => Or.inr hb))) hP
        clear hKS HW HC HR HBX
        go_wp2
        have k0 := (unhide HN).cell (i := 0) rfl
        have k1 := (unhide HN).cell (i := 1) rfl
        refine bodyPost_ret (v := .agg #[.int .i64 H, .slice (some ⟨gt, 0, none⟩) (k + mm) gc]) (by simp [results, Try.results56, go_sem, k0, k1]) rfl (dAns_of _ _ _ _ _ (unhide HRN) (by rw [List.length_append, List.length_replicate]; omega) (len_more fun s hs => Nat.le_trans (unhide HRL s hs) (by omega)) (unhide HCN) (unhide HWN))
      · go_simp
        have HCQ := hide (l1BelowV_any cb n v 2 wd (unhide HC) hn (by omega) (by omega))
        refine (unhide HCQ).mono ?_
        rintro e u73 ⟨d, rfl, hd0, hd1, hC, hk⟩
        replace HW := hide ((unhide HW).trans hk)
        replace HR := hide ((unhide HR).kept hk (fun e => by omega))
        replace HBX := hide ((unhide HBX).kept hk (fun e => by omega))
        replace HY := hide ((unhide HY).kept hk (fun e => by omega) (fun b h1 h2 e => by omega))
        replace HC := hide hC
        clear hC hk HCQ
        obtain ⟨mm, emm⟩ : ∃ z : Nat, (12 : Int) - (k : Int) + d = (z : Int) := ⟨((12 : Int) - (k : Int) + d).toNat, by omega⟩
        have hmm : 7 ≤ mm ∧ mm ≤ 12 := by omega
        have q2 : IntKind.i64.wrap ((12 : Int) - (k : Int) + d) = (mm : Int) := by rw [IntKind.wrap_i64]; omega
        clear emm
        refine hK.out _ _ ((unhide HBX).cell (i := 0) rfl) (fun hHeld => ?_)
        clear hK K
        try simp only [Act.put, List.setIfInBounds_toArray, List.set_cons_zero, List.set_cons_succ]
        refine wpAnyH_take (i := 8) (v := ?_) rfl (by kernel_rfl) (by kernel_rfl) (by kernel_rfl) (fun _ _ _ h => h) (Or.inl ⟨by rfl, ?_⟩) (by assumption) ?_
        rotate_left
        · intro wy hSw
          have hS0 := hSw
          go_simp
          try with_reducible rfl
        try simp only [Act.put, List.getElem_toArray, List.getElem_cons_succ, List.getElem_cons_zero, List.setIfInBounds_toArray, List.set_cons_zero, List.set_cons_succ]
        refine wpAnyH_ready (rs := [1]) (by kernel_rfl) (by simp) ?_
        refine AllReadyH.cons rfl (fun K hK => ?_) (AllReadyH.nil)
        have b1 := (unhide HBX).cell (i := 1) rfl
        go_simp
        clear b1
        refine hK.out _ _ ((unhide HBX).cell (i := 0) rfl) (fun hHeld => ?_)
        clear hK K
        try simp only [Act.put, List.setIfInBounds_toArray, List.set_cons_zero, List.set_cons_succ]
        refine wpAnyH_ready (rs := [9]) (by kernel_rfl) (by simp) ?_
        refine AllReadyH.cons rfl (fun K hK => ?_) AllReadyH.nil
        have hap := run_append_zeros (P := Try.prog) u73 24 3 24 30 i0 (.slice none 0 0) Try.underlying24 Try.underlying3 hinf hz0 ⟨g, 0, none⟩ k k (topsR A C R) (by rw [topsR_len, hRk, hz1, Nat.mul_one]) (fun j u hj => by rw [show (⟨g, 0, none⟩ : Addr).add j = ⟨g, j, none⟩ from by cases j <;> simp [Addr.add]]; exact (unhide HY).top.cell hj) mm (by omega) (by omega) (by omega) (by omega) (by omega) (by omega) (by omega)
        have hcap := grownCap_ge u73 (k + mm) k 30
        have hmx := grownCap_le_maxLen u73 (k + mm) k 30 (by unfold maxLen; omega)
        obtain ⟨gc, egc⟩ : ∃ z, z = grownCap u73 (k + mm) k 30 := ⟨_, rfl⟩
        rw [zeroC, zeroC] at hap
        rw [← egc] at hap hcap hmx
        clear egc
        have hb := (Below.refl u73.heap.size u73).drew.trans (Below.alloc1 u73.drew (.cells ((topsR A C R).toArray ++ (List.replicate mm (Value.slice none 0 0)).toArray ++ (List.replicate (gc - (k + mm)) (Value.slice none 0 0)).toArray) 30))
        have HT := hide (ownV_alloc u73.drew ((topsR A C R).toArray ++ (List.replicate mm (Value.slice none 0 0)).toArray ++ (List.replicate (gc - (k + mm)) (Value.slice none 0 0)).toArray) 30)
        refine step_appZ (by rfl) (.tmp 39) (.tmp 46) 24 3 (by rfl) _ _ _ _ (by rfl) (by rfl) hap ?_
        clear hap
        obtain ⟨wa, ewa⟩ : ∃ z, z = u73.drew.alloc (.cells ((topsR A C R).toArray ++ (List.replicate mm (Value.slice none 0 0)).toArray ++ (List.replicate (gc - (k + mm)) (Value.slice none 0 0)).toArray) 30) := ⟨_, rfl⟩
        obtain ⟨gt, egt⟩ : ∃ z, z = u73.heap.size := ⟨_, rfl⟩
        skip
        try simp only [World.size_drew] at HT hb
        rw [← ewa] at HT hb ⊢
        rw [← egt] at HT ⊢
        have hgt : gy < gt := by rw [egt]; exact (unhide HBX).lt
        replace HW := hide ((unhide HW).trans (kept_of_below hb))
        replace HC := hide ((unhide HC).below hb)
        replace HR := hide ((unhide HR).step hb)
        replace HBX := hide ((unhide HBX).step hb)
        replace HY := hide ((unhide HY).below hb)
        clear hb ewa egt
        refine hK.out _ _ ((unhide HBX).cell (i := 0) rfl) (fun hHeld => ?_)
        clear hK K
        try simp only [Act.put, List.setIfInBounds_toArray]
        refine wpAnyH_take (i := 10) (v := ?_) rfl (by kernel_rfl) (by kernel_rfl) (by kernel_rfl) (fun _ _ _ h => h) (Or.inl ⟨by rfl, ?_⟩) (by assumption) ?_
        rotate_left
        · intro wy hSw
          have hS0 := hSw
          go_simp
          try with_reducible rfl
        try simp only [Act.put, List.getElem_toArray, List.getElem_cons_succ, List.getElem_cons_zero, List.setIfInBounds_toArray, List.set_cons_zero, List.set_cons_succ]
        refine wpAnyH_ready (rs := [11]) (by kernel_rfl) (by simp) ?_
        refine AllReadyH.cons rfl (fun K hK => ?_) AllReadyH.nil
        have bf := (unhide HBX).frozen 1
        have b1 := (unhide HBX).cell (i := 1) rfl
        have HBN := hide ((unhide HBX).set 1 (.slice (some ⟨gt, 0, none⟩) (k + mm) gc) (by simp))
        have hKS := (Kept.refl (fun b => b = gy) wa).setCell (p := ⟨gy, 1, none⟩) rfl (.slice (some ⟨gt, 0, none⟩) (k + mm) gc)
        replace HY := hide ((unhide HY).keptA hKS (fun e => by omega) (fun s b hs e1 e2 => by have := unhide HAU s b hs e1; omega))
        replace HT := hide ((unhide HT).kept hKS (fun e => by omega))
        replace HR := hide ((unhide HR).kept hKS (fun e => by omega))
        replace HC := hide ((unhide HC).kept hKS (fun b e => by omega))
        replace HW := hide (keptNew (unhide HW) hKS (fun b e => by omega))
        clear hKS HBX
        have HBX := HBN
        clear HBN
        go_simp
        clear b1 bf
        obtain ⟨w9, ew9⟩ : ∃ z, z = wa.setCell ⟨gy, 1, none⟩ (.slice (some ⟨gt, 0, none⟩) (k + mm) gc) := ⟨_, rfl⟩
        rw [← ew9] at HY HT HR HC HW HBX ⊢
        clear ew9
        refine hK.out _ _ ((unhide HBX).cell (i := 0) rfl) (fun hHeld => ?_)
        clear hK K
        try simp only [Act.put, List.setIfInBounds_toArray, List.set_cons_zero, List.set_cons_succ]
        refine wpAnyH_done (by kernel_rfl) ?_ _
        go_upto_region 11 with (fail)
        have HRW := hide fun (P : Nat → Prop) (W' : World) (hk : Kept (fun b => b = gr ∨ P b) w9 W') (hP : ∀ b, w.heap.size ≤ b → ¬ P b) => (show RowsIn W' (.slice (some ⟨gt, 0, none⟩) (k + mm) gc) (R ++ List.replicate mm []) from by have h8 := (unhide HY).kept hk (fun e => e.elim (fun e => by omega) (hP g (by omega))) (fun b h1 _ e => e.elim (fun e => by omega) (hP b (by omega))); have h7 := (unhide HT).kept hk (fun e => e.elim (fun e => by omega) (hP gt (by omega))); have h9 := rows_more (R := R) (vs := topsR A C R) (m := mm) (c := gc) (by rw [Array.toList_append, Array.toList_append] at h7; exact h7) (topsR_len A C R) (fun s hs => ⟨_, topsR_get A C R hs, recs_ints ((h8.row s hs).recs (by omega))⟩) (by omega) hmx; rw [hRk] at h9; exact h9)
        have b0 := (unhide HBX).cell (i := 0) rfl
        have b1 := (unhide HBX).cell (i := 1) rfl
        have r0 := (unhide HR).cell (i := 0) rfl
        have r1 := (unhide HR).cell (i := 1) rfl
        have rf := (unhide HR).frozen
        have HN := hide (((unhide HR).set 0 (.int .i64 H) (by simp)).set 1 (.slice (some ⟨gt, 0, none⟩) (k + mm) gc) (by simp))
        have hKS := ((Kept.refl (fun b => b = gr) w9).setCell (p := ⟨gr, 0, none⟩) rfl (.int .i64 H)).setCell (p := ⟨gr, 1, none⟩) rfl (.slice (some ⟨gt, 0, none⟩) (k + mm) gc)
        have HCN := hide ((unhide HC).kept hKS (fun b e => by omega))
        have HWN := hide (keptNew (unhide HW) hKS (fun b e => by omega))
        have HRN := hide fun (P : Nat → Prop) (W' : World) (hk : Kept P _ W') (hP : ∀ b, w.heap.size ≤ b → ¬ P b) => unhide HRW P W' ((hKS.mono (fun b _ hb => Or.inl hb)).trans (hk.mono (fun b _ hb => Or.inr hb))) hP
        clear hKS HW HC HR HBX
        go_wp2
        have k0 := (unhide HN).cell (i := 0) rfl
        have k1 := (unhide HN).cell (i := 1) rfl
        refine bodyPost_ret (v := .agg #[.int .i64 H, .slice (some ⟨gt, 0, none⟩) (k + mm) gc]) (by simp [results, Try.results56, go_sem, k0, k1]) rfl (dAns_of _ _ _ _ _ (unhide HRN) (by rw [List.length_append, List.length_replicate]; omega) (len_more fun s hs => Nat.le_trans (unhide HRL s hs) (by omega)) (unhide HCN) (unhide HWN))
    · go_simp
      have HCQ := hide (l1BelowV_any cb n v 2 wd (unhide HC) hn (by omega) (by omega))
      refine (unhide HCQ).mono ?_
      rintro e u7 ⟨d, rfl, hd0, hd1, hC, hk⟩
      replace HW := hide ((unhide HW).trans hk)
      replace HR := hide ((unhide HR).kept hk (fun e => by omega))
      replace HBX := hide ((unhide HBX).kept hk (fun e => by omega))
      replace HY := hide ((unhide HY).kept hk (fun e => by omega) (fun b h1 h2 e => by omega))
      replace HC := hide hC
      clear hC hk HCQ
      obtain ⟨mm, emm⟩ : ∃ z : Nat, (12 : Int) - (k : Int) + d = (z : Int) := ⟨((12 : Int) - (k : Int) + d).toNat, by omega⟩
      have hmm : 7 ≤ mm ∧ mm ≤ 12 := by omega
      have q2 : IntKind.i64.wrap ((12 : Int) - (k : Int) + d) = (mm : Int) := by rw [IntKind.wrap_i64]; omega
      clear emm
      refine hK.out _ _ ((unhide HBX).cell (i := 0) rfl) (fun hHeld => ?_)
      clear hK K
      try simp only [Act.put, List.setIfInBounds_toArray, List.set_cons_zero, List.set_cons_succ]
      refine wpAnyH_ready (rs := [1, 3]) (by kernel_rfl) (by simp) ?_
      refine AllReadyH.cons rfl (fun K hK => ?_) (AllReadyH.cons rfl (fun K hK => ?_) (AllReadyH.nil))
      · have b1 := (unhide HBX).cell (i := 1) rfl
        go_simp
        clear b1
        refine hK.out _ _ ((unhide HBX).cell (i := 0) rfl) (fun hHeld => ?_)
        clear hK K
        try simp only [Act.put, List.setIfInBounds_toArray, List.set_cons_zero, List.set_cons_succ]
        refine wpAnyH_ready (rs := [3]) (by kernel_rfl) (by simp) ?_
        refine AllReadyH.cons rfl (fun K hK => ?_) (AllReadyH.nil)
        have b1 := (unhide HBX).cell (i := 1) rfl
        go_simp
        clear b1
        refine hK.out _ _ ((unhide HBX).cell (i := 0) rfl) (fun hHeld => ?_)
        clear hK K
        try simp only [Act.put, List.setIfInBounds_toArray, List.set_cons_zero, List.set_cons_succ]
        refine wpAnyH_take (i := 4) (v := ?_) rfl (by kernel_rfl) (by kernel_rfl) (by kernel_rfl) (fun _ _ _ h => h) (Or.inl ⟨by rfl, ?_⟩) (by assumption) ?_
        rotate_left
        · intro wy hSw
          have hS0 := hSw
          go_simp
          try with_reducible rfl
        try simp only [Act.put, List.getElem_toArray, List.getElem_cons_succ, List.getElem_cons_zero, List.setIfInBounds_toArray, List.set_cons_zero, List.set_cons_succ]
        refine wpAnyH_take (i := 5) (v := ?_) rfl (by kernel_rfl) (by kernel_rfl) (by kernel_rfl) (fun _ _ _ h => h) (Or.inl ⟨by rfl, ?_⟩) (by assumption) ?_
        rotate_left
        · intro wy hSw
          have hS0 := hSw
          go_simp
          try with_reducible rfl
        try simp only [Act.put, List.getElem_toArray, List.getElem_cons_succ, List.getElem_cons_zero, List.setIfInBounds_toArray, List.set_cons_zero, List.set_cons_succ]
        refine wpAnyH_take (i := 8) (v := ?_) rfl (by kernel_rfl) (by kernel_rfl) (by kernel_rfl) (fun _ _ _ h => h) (Or.inl ⟨by rfl, ?_⟩) (by assumption) ?_
        rotate_left
        · intro wy hSw
          have hS0 := hSw
          go_simp
          try with_reducible rfl
        try simp only [Act.put, List.getElem_toArray, List.getElem_cons_succ, List.getElem_cons_zero, List.setIfInBounds_toArray, List.set_cons_zero, List.set_cons_succ]
        refine wpAnyH_ready (rs := [9]) (by kernel_rfl) (by simp) ?_
        refine AllReadyH.cons rfl (fun K hK => ?_) AllReadyH.nil
        have hap := run_append_zeros (P := Try.prog) u7 24 3 24 30 i0 (.slice none 0 0) Try.underlying24 Try.underlying3 hinf hz0 ⟨g, 0, none⟩ k k (topsR A C R) (by rw [topsR_len, hRk, hz1, Nat.mul_one]) (fun j u hj => by rw [show (⟨g, 0, none⟩ : Addr).add j = ⟨g, j, none⟩ from by cases j <;> simp [Addr.add]]; exact (unhide HY).top.cell hj) mm (by omega) (by omega) (by omega) (by omega) (by omega) (by omega) (by omega)
        have hcap := grownCap_ge u7 (k + mm) k 30
        have hmx := grownCap_le_maxLen u7 (k + mm) k 30 (by unfold maxLen; omega)
        obtain ⟨gc, egc⟩ : ∃ z, z = grownCap u7 (k + mm) k 30 := ⟨_, rfl⟩
        rw [zeroC, zeroC] at hap
        rw [← egc] at hap hcap hmx
        clear egc
        have hb := (Below.refl u7.heap.size u7).drew.trans (Below.alloc1 u7.drew (.cells ((topsR A C R).toArray ++ (List.replicate mm (Value.slice none 0 0)).toArray ++ (List.replicate (gc - (k + mm)) (Value.slice none 0 0)).toArray) 30))
        have HT := hide (ownV_alloc u7.drew ((topsR A C R).toArray ++ (List.replicate mm (Value.slice none 0 0)).toArray ++ (List.replicate (gc - (k + mm)) (Value.slice none 0 0)).toArray) 30)
        refine step_appZ (by rfl) (.tmp 39) (.tmp 46) 24 3 (by rfl) _ _ _ _ (by rfl) (by rfl) hap ?_
        clear hap
        obtain ⟨wa, ewa⟩ : ∃ z, z = u7.drew.alloc (.cells ((topsR A C R).toArray ++ (List.replicate mm (Value.slice none 0 0)).toArray ++ (List.replicate (gc - (k + mm)) (Value.slice none 0 0)).toArray) 30) := ⟨_, rfl⟩
        obtain ⟨gt, egt⟩ : ∃ z, z = u7.heap.size := ⟨_, rfl⟩
        skip
        try simp only [World.size_drew] at HT hb
        rw [← ewa] at HT hb ⊢
        rw [← egt] at HT ⊢
        have hgt : gy < gt := by rw [egt]; exact (unhide HBX).lt
        replace HW := hide ((unhide HW).trans (kept_of_below hb))
        replace HC := hide ((unhide HC).below hb)
        replace HR := hide ((unhide HR).step hb)
        replace HBX := hide ((unhide HBX).step hb)
        replace HY := hide ((unhide HY).below hb)
        clear hb ewa egt
        refine hK.out _ _ ((unhide HBX).cell (i := 0) rfl) (fun hHeld => ?_)
        clear hK K
        try simp only [Act.put, List.setIfInBounds_toArray]
        refine wpAnyH_take (i := 10) (v := ?_) rfl (by kernel_rfl) (by kernel_rfl) (by kernel_rfl) (fun _ _ _ h => h) (Or.inl ⟨by rfl, ?_⟩) (by assumption) ?_
        rotate_left
        · intro wy hSw
          have hS0 := hSw
          go_simp
          try with_reducible rfl
        try simp only [Act.put, List.getElem_toArray, List.getElem_cons_succ, List.getElem_cons_zero, List.setIfInBounds_toArray, List.set_cons_zero, List.set_cons_succ]
        refine wpAnyH_ready (rs := [11]) (by kernel_rfl) (by simp) ?_
        refine AllReadyH.cons rfl (fun K hK => ?_) AllReadyH.nil
        have bf := (unhide HBX).frozen 1
        have b1 := (unhide HBX).cell (i := 1) rfl
        have HBN := hide ((unhide HBX).set 1 (.slice (some ⟨gt, 0, none⟩) (k + mm) gc) (by simp))
        have hKS := (Kept.refl (fun b => b = gy) wa).setCell (p := ⟨gy, 1, none⟩) rfl (.slice (some ⟨gt, 0, none⟩) (k + mm) gc)
        replace HY := hide ((unhide HY).keptA hKS (fun e => by omega) (fun s b hs e1 e2 => by have := unhide HAU s b hs e1; omega))
        replace HT := hide ((unhide HT).kept hKS (fun e => by omega))
        replace HR := hide ((unhide HR).kept hKS (fun e => by omega))
        replace HC := hide ((unhide HC).kept hKS (fun b e => by omega))
        replace HW := hide (keptNew (unhide HW) hKS (fun b e => by omega))
        clear hKS HBX
        have HBX := HBN
        clear HBN
        go_simp
        clear b1 bf
        obtain ⟨w9, ew9⟩ : ∃ z, z = wa.setCell ⟨gy, 1, none⟩ (.slice (some ⟨gt, 0, none⟩) (k + mm) gc) := ⟨_, rfl⟩
        rw [← ew9] at HY HT HR HC HW HBX ⊢
        clear ew9
        refine hK.out _ _ ((unhide HBX).cell (i := 0) rfl) (fun hHeld => ?_)
        clear hK K
        try simp only [Act.put, List.setIfInBounds_toArray, List.set_cons_zero, List.set_cons_succ]
        refine wpAnyH_done (by kernel_rfl) ?_ _
        go_upto_region 11 with (fail)
        have HRW := hide fun (P : Nat → Prop) (W' : World) (hk : Kept (fun b => b = gr ∨ P b) w9 W') (hP : ∀ b, w.heap.size ≤ b → ¬ P b) => (show RowsIn W' (.slice (some ⟨gt, 0, none⟩) (k + mm) gc) (R ++ List.replicate mm []) from by have h8 := (unhide HY).kept hk (fun e => e.elim (fun e => by omega) (hP g (by omega))) (fun b h1 _ e => e.elim (fun e => by omega) (hP b (by omega))); have h7 := (unhide HT).kept hk (fun e => e.elim (fun e => by omega) (hP gt (by omega))); have h9 := rows_more (R := R) (vs := topsR A C R) (m := mm) (c := gc) (by rw [Array.toList_append, Array.toList_append] at h7; exact h7) (topsR_len A C R) (fun s hs => ⟨_, topsR_get A C R hs, recs_ints ((h8.row s hs).recs (by omega))⟩) (by omega) hmx; rw [hRk] at h9; exact h9)
        have b0 := (unhide HBX).cell (i := 0) rfl
        have b1 := (unhide HBX).cell (i := 1) rfl
        have r0 := (unhide HR).cell (i := 0) rfl
        have r1 := (unhide HR).cell (i := 1) rfl
        have rf := (unhide HR).frozen
        have HN := hide (((unhide HR).set 0 (.int .i64 H) (by simp)).set 1 (.slice (some ⟨gt, 0, none⟩) (k + mm) gc) (by simp))
        have hKS := ((Kept.refl (fun b => b = gr) w9).setCell (p := ⟨gr, 0, none⟩) rfl (.int .i64 H)).setCell (p := ⟨gr, 1, none⟩) rfl (.slice (some ⟨gt, 0, none⟩) (k + mm) gc)
        have HCN := hide ((unhide HC).kept hKS (fun b e => by omega))
        have HWN := hide (keptNew (unhide HW) hKS (fun b e => by omega))
        have HRN := hide fun (P : Nat → Prop) (W' : World) (hk : Kept P _ W') (hP : ∀ b, w.heap.size ≤ b → ¬ P b) => unhide HRW P W' ((hKS.mono (fun b _ hb => Or.inl hb)).trans (hk.mono (fun b _ hb => Or.inr hb))) hP
        clear hKS HW HC HR HBX
        go_wp2
        have k0 := (unhide HN).cell (i := 0) rfl
        have k1 := (unhide HN).cell (i := 1) rfl
        refine bodyPost_ret (v := .agg #[.int .i64 H, .slice (some ⟨gt, 0, none⟩) (k + mm) gc]) (by simp [results, Try.results56, go_sem, k0, k1]) rfl (dAns_of _ _ _ _ _ (unhide HRN) (by rw [List.length_append, List.length_replicate]; omega) (len_more fun s hs => Nat.le_trans (unhide HRL s hs) (by omega)) (unhide HCN) (unhide HWN))
      · have b1 := (unhide HBX).cell (i := 1) rfl
        go_simp
        clear b1
        refine hK.out _ _ ((unhide HBX).cell (i := 0) rfl) (fun hHeld => ?_)
        clear hK K
        try simp only [Act.put, List.setIfInBounds_toArray, List.set_cons_zero, List.set_cons_succ]
        refine wpAnyH_take (i := 4) (v := ?_) rfl (by kernel_rfl) (by kernel_rfl) (by kernel_rfl) (fun _ _ _ h => h) (Or.inl ⟨by rfl, ?_⟩) (by assumption) ?_
        rotate_left
        · intro wy hSw
          have hS0 := hSw
          go_simp
          try with_reducible rfl
        try simp only [Act.put, List.getElem_toArray, List.getElem_cons_succ, List.getElem_cons_zero, List.setIfInBounds_toArray, List.set_cons_zero, List.set_cons_succ]
        refine wpAnyH_take (i := 5) (v := ?_) rfl (by kernel_rfl) (by kernel_rfl) (by kernel_rfl) (fun _ _ _ h => h) (Or.inl ⟨by rfl, ?_⟩) (by assumption) ?_
        rotate_left
        · intro wy hSw
          have hS0 := hSw
          go_simp
          try with_reducible rfl
        try simp only [Act.put, List.getElem_toArray, List.getElem_cons_succ, List.getElem_cons_zero, List.setIfInBounds_toArray, List.set_cons_zero, List.set_cons_succ]
        refine wpAnyH_take (i := 8) (v := ?_) rfl (by kernel_rfl) (by kernel_rfl) (by kernel_rfl) (fun _ _ _ h => h) (Or.inl ⟨by rfl, ?_⟩) (by assumption) ?_
        rotate_left
        · intro wy hSw
          have hS0 := hSw
          go_simp
          try with_reducible rfl
        try simp only [Act.put, List.getElem_toArray, List.getElem_cons_succ, List.getElem_cons_zero, List.setIfInBounds_toArray, List.set_cons_zero, List.set_cons_succ]
        refine wpAnyH_ready (rs := [1]) (by kernel_rfl) (by simp) ?_
        refine AllReadyH.cons rfl (fun K hK => ?_) (AllReadyH.nil)
        have b1 := (unhide HBX).cell (i := 1) rfl
        go_simp
        clear b1
        refine hK.out _ _ ((unhide HBX).cell (i := 0) rfl) (fun hHeld => ?_)
        clear hK K
        try simp only [Act.put, List.setIfInBounds_toArray, List.set_cons_zero, List.set_cons_succ]
        refine wpAnyH_ready (rs := [9]) (by kernel_rfl) (by simp) ?_
        refine AllReadyH.cons rfl (fun K hK => ?_) AllReadyH.nil
        have hap := run_append_zeros (P := Try.prog) u7 24 3 24 30 i0 (.slice none 0 0) Try.underlying24 Try.underlying3 hinf hz0 ⟨g, 0, none⟩ k k (topsR A C R) (by rw [topsR_len, hRk, hz1, Nat.mul_one]) (fun j u hj => by rw [show (⟨g, 0, none⟩ : Addr).add j = ⟨g, j, none⟩ from by cases j <;> simp [Addr.add]]; exact (unhide HY).top.cell hj) mm (by omega) (by omega) (by omega) (by omega) (by omega) (by omega) (by omega)
        have hcap := grownCap_ge u7 (k + mm) k 30
        have hmx := grownCap_le_maxLen u7 (k + mm) k 30 (by unfold maxLen; omega)
        obtain ⟨gc, egc⟩ : ∃ z, z = grownCap u7 (k + mm) k 30 := ⟨_, rfl⟩
        rw [zeroC, zeroC] at hap
        rw [← egc] at hap hcap hmx
        clear egc
        have hb := (Below.refl u7.heap.size u7).drew.trans (Below.alloc1 u7.drew (.cells ((topsR A C R).toArray ++ (List.replicate mm (Value.slice none 0 0)).toArray ++ (List.replicate (gc - (k + mm)) (Value.slice none 0 0)).toArray) 30))
        have HT := hide (ownV_alloc u7.drew ((topsR A C R).toArray ++ (List.replicate mm (Value.slice none 0 0)).toArray ++ (List.replicate (gc - (k + mm)) (Value.slice none 0 0)).toArray) 30)
        refine step_appZ (by rfl) (.tmp 39) (.tmp 46) 24 3 (by rfl) _ _ _ _ (by rfl) (by rfl) hap ?_
        clear hap
        obtain ⟨wa, ewa⟩ : ∃ z, z = u7.drew.alloc (.cells ((topsR A C R).toArray ++ (List.replicate mm (Value.slice none 0 0)).toArray ++ (List.replicate (gc - (k + mm)) (Value.slice none 0 0)).toArray) 30) := ⟨_, rfl⟩
        obtain ⟨gt, egt⟩ : ∃ z, z = u7.heap.size := ⟨_, rfl⟩
        skip
        try simp only [World.size_drew] at HT hb
        rw [← ewa] at HT hb ⊢
        rw [← egt] at HT ⊢
        have hgt : gy < gt := by rw [egt]; exact (unhide HBX).lt
        replace HW := hide ((unhide HW).trans (kept_of_below hb))
        replace HC := hide ((unhide HC).below hb)
        replace HR := hide ((unhide HR).step hb)
        replace HBX := hide ((unhide HBX).step hb)
        replace HY := hide ((unhide HY).below hb)
        clear hb ewa egt
        refine hK.out _ _ ((unhide HBX).cell (i := 0) rfl) (fun hHeld => ?_)
        clear hK K
        try simp only [Act.put, List.setIfInBounds_toArray]
        refine wpAnyH_take (i := 10) (v := ?_) rfl (by kernel_rfl) (by kernel_rfl) (by kernel_rfl) (fun _ _ _ h => h) (Or.inl ⟨by rfl, ?_⟩) (by assumption) ?_
        rotate_left
        · intro wy hSw
          have hS0 := hSw
          go_simp
          try with_reducible rfl
        try simp only [Act.put, List.getElem_toArray, List.getElem_cons_succ, List.getElem_cons_zero, List.setIfInBounds_toArray, List.set_cons_zero, List.set_cons_succ]
        refine wpAnyH_ready (rs := [11]) (by kernel_rfl) (by simp) ?_
        refine AllReadyH.cons rfl (fun K hK => ?_) AllReadyH.nil
        have bf := (unhide HBX).frozen 1
        have b1 := (unhide HBX).cell (i := 1) rfl
        have HBN := hide ((unhide HBX).set 1 (.slice (some ⟨gt, 0, none⟩) (k + mm) gc) (by simp))
        have hKS := (Kept.refl (fun b => b = gy) wa).setCell (p := ⟨gy, 1, none⟩) rfl (.slice (some ⟨gt, 0, none⟩) (k + mm) gc)
        replace HY := hide ((unhide HY).keptA hKS (fun e => by omega) (fun s b hs e1 e2 => by have := unhide HAU s b hs e1; omega))
        replace HT := hide ((unhide HT).kept hKS (fun e => by omega))
        replace HR := hide ((unhide HR).kept hKS (fun e => by omega))
        replace HC := hide ((unhide HC).kept hKS (fun b e => by omega))
        replace HW := hide (keptNew (unhide HW) hKS (fun b e => by omega))
        clear hKS HBX
        have HBX := HBN
        clear HBN
        go_simp
        clear b1 bf
        obtain ⟨w9, ew9⟩ : ∃ z, z = wa.setCell ⟨gy, 1, none⟩ (.slice (some ⟨gt, 0, none⟩) (k + mm) gc) := ⟨_, rfl⟩
        rw [← ew9] at HY HT HR HC HW HBX ⊢
        clear ew9
        refine hK.out _ _ ((unhide HBX).cell (i := 0) rfl) (fun hHeld => ?_)
        clear hK K
        try simp only [Act.put, List.setIfInBounds_toArray, List.set_cons_zero, List.set_cons_succ]
        refine wpAnyH_done (by kernel_rfl) ?_ _
        go_upto_region 11 with (fail)
        have HRW := hide fun (P : Nat → Prop) (W' : World) (hk : Kept (fun b => b = gr ∨ P b) w9 W') (hP : ∀ b, w.heap.size ≤ b → ¬ P b) => (show RowsIn W' (.slice (some ⟨gt, 0, none⟩) (k + mm) gc) (R ++ List.replicate mm []) from by have h8 := (unhide HY).kept hk (fun e => e.elim (fun e => by omega) (hP g (by omega))) (fun b h1 _ e => e.elim (fun e => by omega) (hP b (by omega))); have h7 := (unhide HT).kept hk (fun e => e.elim (fun e => by omega) (hP gt (by omega))); have h9 := rows_more (R := R) (vs := topsR A C R) (m := mm) (c := gc) (by rw [Array.toList_append, Array.toList_append] at h7; exact h7) (topsR_len A C R) (fun s hs => ⟨_, topsR_get A C R hs, recs_ints ((h8.row s hs).recs (by omega))⟩) (by omega) hmx; rw [hRk] at h9; exact h9)
        have b0 := (unhide HBX).cell (i := 0) rfl
        have b1 := (unhide HBX).cell (i := 1) rfl
        have r0 := (unhide HR).cell (i := 0) rfl
        have r1 := (unhide HR).cell (i := 1) rfl
        have rf := (unhide HR).frozen
        have HN := hide (((unhide HR).set 0 (.int .i64 H) (by simp)).set 1 (.slice (some ⟨gt, 0, none⟩) (k + mm) gc) (by simp))
        have hKS := ((Kept.refl (fun b => b = gr) w9).setCell (p := ⟨gr, 0, none⟩) rfl (.int .i64 H)).setCell (p := ⟨gr, 1, none⟩) rfl (.slice (some ⟨gt, 0, none⟩) (k + mm) gc)
        have HCN := hide ((unhide HC).kept hKS (fun b e => by omega))
        have HWN := hide (keptNew (unhide HW) hKS (fun b e => by omega))
        have HRN := hide fun (P : Nat → Prop) (W' : World) (hk : Kept P _ W') (hP : ∀ b, w.heap.size ≤ b → ¬ P b) => unhide HRW P W' ((hKS.mono (fun b _ hb => Or.inl hb)).trans (hk.mono (fun b _ hb => Or.inr hb))) hP
        clear hKS HW HC HR HBX
        go_wp2
        have k0 := (unhide HN).cell (i := 0) rfl
        have k1 := (unhide HN).cell (i := 1) rfl
        refine bodyPost_ret (v := .agg #[.int .i64 H, .slice (some ⟨gt, 0, none⟩) (k + mm) gc]) (by simp [results, Try.results56, go_sem, k0, k1]) rfl (dAns_of _ _ _ _ _ (unhide HRN) (by rw [List.length_append, List.length_replicate]; omega) (len_more fun s hs => Nat.le_trans (unhide HRL s hs) (by omega)) (unhide HCN) (unhide HWN))
  have d3 : (z == 3) = false := by simpa using z3
  clear z0 z1 z2 z3
  have HRW := hide fun (P : Nat → Prop) (W' : World) (hk : Kept (fun b => b = gr ∨ P b) w5 W') (hP : ∀ b, w.heap.size ≤ b → ¬ P b) => (show RowsIn W' (.slice (some ⟨g, 0, none⟩) k k) R from by have h9 := ((unhide HY).kept hk (fun e => e.elim (fun e => by omega) (hP g (by omega))) (fun b h1 _ e => e.elim (fun e => by omega) (hP b (by omega)))).rows (c := k) (by omega) (by unfold maxLen; omega); rw [hRk] at h9; exact h9)
  have b0 := (unhide HBX).cell (i := 0) rfl
  have b1 := (unhide HBX).cell (i := 1) rfl
  have r0 := (unhide HR).cell (i := 0) rfl
  have r1 := (unhide HR).cell (i := 1) rfl
  have rf := (unhide HR).frozen
  have HN := hide (((unhide HR).set 0 (.int .i64 H) (by simp)).set 1 (.slice (some ⟨g, 0, none⟩) k k) (by simp))
  have hKS := ((Kept.refl (fun b => b = gr) w5).setCell (p := ⟨gr, 0, none⟩) rfl (.int .i64 H)).setCell (p := ⟨gr, 1, none⟩) rfl (.slice (some ⟨g, 0, none⟩) k k)
  have HCN := hide ((unhide HC).kept hKS (fun b e => by omega))
  have HWN := hide (keptNew (unhide HW) hKS (fun b e => by omega))
  have HRN := hide fun (P : Nat → Prop) (W' : World) (hk : Kept P _ W') (hP : ∀ b, w.heap.size ≤ b → ¬ P b) => unhide HRW P W' ((hKS.mono (fun b _ hb => Or.inl hb)).trans (hk.mono (fun b _ hb => Or.inr hb))) hP
  clear hKS HW HC HR HBX
  go_wp2
  have k0 := (unhide HN).cell (i := 0) rfl
  have k1 := (unhide HN).cell (i := 1) rfl
  refine bodyPost_ret (v := .agg #[.int .i64 H, .slice (some ⟨g, 0, none⟩) k k]) (by simp [results, Try.results56, go_sem, k0, k1]) rfl (dAns_of _ _ _ _ _ (unhide HRN) (by omega) (fun s hs => Nat.le_trans (unhide HRL s hs) (by omega)) (unhide HCN) (unhide HWN))

end Go.Proofs.Ytdiifkeebgdfkaa

namespace Go.Proofs.Ytdiifkeebgdfkaa
open Go.RowKit

theorem wpList_appTo {α : Type} [Inhabited α] {n : Nat} {enc : α → Nat → Value} {St T : TypeId} (hty : RecTy St T n enc) (w : World) {ops : Array Oper} {rest : List Oper} {o : Oper} {a : Act} {Q : Exit → Act → World → Prop} (hgd : o.guard = none) (s x : Operand)
    (ho : o.op = .call { callee := .builtin .append, args := #[s, x], argTypes := #[St, St] })
    (B g m cap : Nat) (L : List α) (hs : a.eval s = .slice (some ⟨g, 0, none⟩) m cap) (h : RowB T n enc B w (some ⟨g, 0, none⟩) m cap L) (hB : B ≤ w.heap.size) (hm : m ≤ 1048576) (xo : Option Addr) (k c : Nat) (M : List α) (hx : a.eval x = .slice xo k c) (hX : RecsIn n enc w (.slice xo k c) M) (hk : k ≤ 1048576)
    (hK : ∀ g' cap' w', RowB T n enc B w' (some ⟨g', 0, none⟩) (m + k) cap' (L ++ M) → Kept (fun b => b = g) w w' → (g' = g ∨ g' = w.heap.size) → wpList Try.prog ops Q rest (a.put o.dst (.slice (some ⟨g', 0, none⟩) (m + k) cap')) w') : wpList Try.prog ops Q (o :: rest) a w := by
  obtain ⟨i0, z, bytes, hinf, hz0, hz1, hz2, hz3, hby⟩ := hty.inf
  have hbb : (m + k) * bytes ≤ 140737488355328 := by
    have : (m + k) * bytes ≤ 2097152 * 1000 := Nat.mul_le_mul (by omega) hby
    omega
  have hkl : M.length = k := by
    obtain ⟨_, _, e, _⟩ := hX
    simp only [Value.slice.injEq] at e
    exact e.2.1.symm
  by_cases hk0 : k = 0
  · subst hk0
    have hM : M = [] := List.length_eq_zero_iff.1 hkl
    subst hM
    rw [List.append_nil] at hK
    rcases h.parts hty.pos with ⟨e, _⟩ | ⟨g, e, _, _, hc, hcm, _⟩
    · cases e
    · simp only [Option.some.injEq, Addr.mk.injEq, and_true] at e
      subst e
      refine wpList_plain hgd fun K hK' => ?_
      have hrun := run_append_zer (P := Try.prog) w St o.type T i0 hty.und hinf ⟨g, 0, none⟩ m cap c xo hc
      unfold Oper.wp
      simp [execOp, ho, resolve, invoke, builtin, hs, hx, hrun, Result.andThen]
      exact hK' _ _ (hK _ cap w h (Kept.refl _ _) (Or.inl rfl))
  · obtain ⟨ad, rfl, hsrc⟩ := recs_src hX (by omega)
    refine wpList_append_lies w hgd s x St ho B T i0 z n bytes hty.und hinf hz0 hz1 hz2 hz3 hty.pos _ m (recCells n enc L) hs h ad k c (recCells n enc M) hx (by rw [recCells_length, hkl]) hsrc (hty.cells M) (by omega) (by unfold maxLen; omega) hbb hB _ rfl ?_
    intro g' cap' w' h2 h3 h4 _
    have hob : ∀ k, (Value.slice (some ⟨g, 0, none⟩) m cap).ownBlock = some k → k = g := fun k hk => by
      simp [Value.ownBlock] at hk; rw [hk]
    refine hK _ cap' w' ?_ ⟨h3.os, h3.tape, h3.output, h3.size, fun k hk hn => h3.block k hk (fun e => hn (hob k e.symm))⟩ (h4.imp (hob g') id)
    unfold RowB
    rw [recCells_append n hty.pos]
    exact h2

section
variable {α : Type} [Inhabited α] {n : Nat} {enc : α → Nat → Value} {w : World} {ba : Option Addr} {m cap k : Nat} {L : List α}
theorem recs_drop (h : RecsIn n enc w (.slice ba m cap) L) : RecsIn n enc w (.slice (if cap = k then ba else ba.map (·.add (k * n))) (m - k) (cap - k)) (L.drop k) := by
  obtain ⟨hm, hc, hx⟩ := recs_len h
  obtain ⟨ao, c, e, _, _, h3⟩ := h
  simp only [Value.slice.injEq] at e
  obtain ⟨rfl, _, rfl⟩ := e
  refine ⟨_, _, by rw [List.length_drop, hm], by rw [List.length_drop]; omega, by omega, fun i hi => ?_⟩
  rw [List.length_drop] at hi
  obtain ⟨b, o, rfl, hcl⟩ := h3 (k + i) (by omega)
  refine ⟨b, o + k * n, ?_, fun j hj => ?_⟩
  · rw [if_neg (by omega), Option.map_some, Go.WideShapes.add_plain]
  · rw [show o + k * n + (i * n + j) = o + ((k + i) * n + j) by rw [Nat.add_mul]; omega, hcl j hj, getD_lt (by omega), getD_lt (by rw [List.length_drop]; omega), List.getElem_drop]
theorem recs_take (h : RecsIn n enc w (.slice ba m cap) L) (hk : k ≤ m) : RecsIn n enc w (.slice ba k cap) (L.take k) := by
  obtain ⟨hm, hc, hx⟩ := recs_len h
  obtain ⟨ao, c, e, _, _, h3⟩ := h
  simp only [Value.slice.injEq] at e
  obtain ⟨rfl, _, rfl⟩ := e
  have hl : (L.take k).length = k := by rw [List.length_take]; omega
  refine ⟨_, _, by rw [hl], by omega, by omega, fun i hi => ?_⟩
  obtain ⟨b, o, rfl, hcl⟩ := h3 i (by omega)
  refine ⟨b, o, rfl, fun j hj => ?_⟩
  rw [hcl j hj, getD_lt (by omega), getD_lt (by omega), List.getElem_take]
end
theorem slice_hiI {ba : Option Addr} {m cap k : Nat} (h : ∃ g, ba = some ⟨g, 0, none⟩) (hk : (k : Int) ≤ cap) (V : World) : (Instr.slice 30 (.slice ba m cap) none (some (.int .i64 (k : Int))) none).run Try.prog V = .ok (.slice ba k cap) V := by
  obtain ⟨g, rfl⟩ := h
  simp [go_sem, hk, Addr.add]
theorem sliceAt_hiI {ba : Option Addr} {m cap k : Nat} (h : ∃ g, ba = some ⟨g, 0, none⟩) (hk : (k : Int) ≤ cap) (V : World) : (Instr.sliceAt 30 (.slice ba m cap) none (some (.int .i64 (k : Int))) none).run Try.prog V = .ok (.slice ba k cap) V := by
  obtain ⟨g, rfl⟩ := h
  simp [go_sem, hk, Addr.add]

theorem kept_cellA {T : Nat → Prop} {w w' : World} {b o : Nat} {v : Value} (hc : w.cell? ⟨b, o, none⟩ = some v) (hk : Kept T w w') (hT : ¬ T b) : w'.cell? ⟨b, o, none⟩ = some v :=
  (World.cell?_of_block (w := w) (a := ⟨b, o, none⟩) (hk.block b (lt_of_cell hc) hT)).trans hc
theorem recs_kept {P : Nat → Prop} {w w' : World} {g m cap : Nat} {L : List Int} (h : RecsIn 1 eI w (.slice (some ⟨g, 0, none⟩) m cap) L) (hk : Kept P w w') (hg : ¬ P g) : RecsIn 1 eI w' (.slice (some ⟨g, 0, none⟩) m cap) L := by
  obtain ⟨ao, c, e, h1, h2, h3⟩ := h
  simp only [Value.slice.injEq] at e
  obtain ⟨rfl, rfl, rfl⟩ := e
  refine ⟨_, _, rfl, h1, h2, fun i hi => ?_⟩
  obtain ⟨b, o, e2, hc⟩ := h3 i hi
  simp only [Option.some.injEq, Addr.mk.injEq, and_true] at e2
  obtain ⟨rfl, rfl⟩ := e2
  exact ⟨_, _, rfl, fun j hj => kept_cellA (hc j hj) hk hg⟩
theorem recs_lt {w : World} {g m cap : Nat} {x : Int} {L : List Int} (h : RecsIn 1 eI w (.slice (some ⟨g, 0, none⟩) m cap) ([x] ++ L)) : g < w.heap.size := by
  obtain ⟨ao, c, e, h1, h2, h3⟩ := h
  simp only [Value.slice.injEq] at e
  obtain ⟨rfl, rfl, rfl⟩ := e
  obtain ⟨b, o, e2, hc⟩ := h3 0 (by simp)
  simp only [Option.some.injEq, Addr.mk.injEq, and_true] at e2
  obtain ⟨rfl, rfl⟩ := e2
  exact lt_of_cell (hc 0 (by omega))
/-- A list of numbers that can be read, as it is in all worlds that keep what is elder. -/
def OAns (cb n : Nat) (v : Value) (w : World) (e : Ending) (w' : World) : Prop :=
  ∃ g q oc L, e = .returned (.slice (some ⟨g, 0, none⟩) q oc) ∧ (∀ (P : Nat → Prop) W', Kept P w' W' → (∀ b, w.heap.size ≤ b → ¬ P b) → IntsIn W' (.slice (some ⟨g, 0, none⟩) q oc) L) ∧ L.length ≤ 20000 ∧ Cur w' cb v n ∧ Kept (fun b => b = cb) w w'
theorem oAns_of {cb n : Nat} {v : Value} {w w' : World} (g q oc : Nat) (L : List Int) (h1 : ∀ (P : Nat → Prop) W', Kept P w' W' → (∀ b, w.heap.size ≤ b → ¬ P b) → IntsIn W' (.slice (some ⟨g, 0, none⟩) q oc) L) (h2 : L.length ≤ 20000) (h4 : Cur w' cb v n) (h5 : Kept (fun b => b = cb) w w') :
    OAns cb n v w (.returned (.slice (some ⟨g, 0, none⟩) q oc)) w' := ⟨g, q, oc, L, rfl, h1, h2, h4, h5⟩

set_option maxRecDepth 100000 in
set_option maxHeartbeats 16000000 in
theorem l18DrawOrder_any (cb n : Nat) (v : Value) (H : Int) (ao : Option Addr) (m c : Nat) (R : List (List Int)) (w : World) (h : Cur w cb v n) (hn : n ≤ 1048576) (hR : ∀ W', Kept (fun b => b = cb) w W' → RowsIn W' (.slice ao m c) R) (hR1 : R.length ≤ 100) (hR2 : ∀ s, s < R.length → (R.getD s []).length ≤ 100) :
    Calls Try.prog 57 #[.pointer (some ⟨cb, 0, none⟩), yardV H (.slice ao m c)] w fun e w' => OAns cb n v w e w' := by
  have HC := hide h
  have hcl := h.lt
  obtain rfl : m = R.length := by obtain ⟨_, _, e, _⟩ := hR w (Kept.refl _ _); simp only [Value.slice.injEq] at e; exact e.2.1
  have HRR := hide hR
  have HRL := hide hR2
  have hA := Below.alloc1 w (.cells #[.int .i64 H, .slice ao R.length c] 26)
  have HBX := hide (ownV_alloc w #[.int .i64 H, .slice ao R.length c] 26)
  have HW := hide (kept_of_below (T := fun b => b = cb) hA)
  replace HC := hide ((unhide HC).below hA)
  clear h hR hR2
  unfold yardV
  go_enter Try.func57, Try.ntmps57
  go_upto_region 1 with (fail)
  obtain ⟨gy, egy⟩ : ∃ z, z = w.heap.size := ⟨_, rfl⟩
  obtain ⟨W0, eW0⟩ : ∃ z, z = w.alloc (.cells #[.int .i64 H, .slice ao R.length c] 26) := ⟨_, rfl⟩
  rw [← eW0] at HBX HW HC ⊢
  rw [← egy] at HBX ⊢
  have hgy : w.heap.size ≤ gy := by omega
  have hgyl := (unhide HBX).lt
  clear hA egy eW0
  have hb := Below.alloc1 W0 (.cells #[] 3)
  have HRO := hide (rowB_new (α := Int) 3 1 eI W0 (gy + 1) (by omega))
  replace HW := hide ((unhide HW).trans (kept_of_below hb))
  replace HC := hide ((unhide HC).below hb)
  replace HBX := hide ((unhide HBX).step hb)
  go_upto_region 2 with (fail)
  obtain ⟨og, eog⟩ : ∃ z, z = W0.heap.size := ⟨_, rfl⟩
  obtain ⟨W1, eW1⟩ : ∃ z, z = W0.alloc (.cells #[] 3) := ⟨_, rfl⟩
  rw [← eW1] at HBX HW HC HRO ⊢
  rw [← eog] at HRO ⊢
  have hyl : gy < W1.heap.size := (unhide HBX).lt
  clear hb eog eW1 hgyl
  go_wp2
  go_loopg [5, 6] R.length (fun gg ov sv wr => ∃ (s og oc : Nat) (L : List Int), s ≤ R.length ∧ gg = R.length - s ∧ ov = .slice (some ⟨og, 0, none⟩) L.length oc ∧ sv = .int .i64 s ∧ L.length ≤ 101 * s ∧ gy < wr.heap.size ∧ Hid (RowB 3 1 eI (gy + 1) wr (some ⟨og, 0, none⟩) L.length oc L) ∧ Hid (OwnV wr gy [.int .i64 H, .slice ao R.length c]) ∧ Hid (Cur wr cb v n) ∧ Hid (Kept (fun b => b = cb) w wr))
  case atStart => exact ⟨0, og, 0, [], Nat.zero_le _, rfl, rfl, rfl, by simp, hyl, HRO, HBX, HC, HW⟩
  case round =>
    clear HRO HBX HC HW hyl
    obtain ⟨s, og, oc, L, hs, rfl, rfl, rfl, hL, hyl, HRO, HBX, HC, HW⟩ := hrel
    have y1 := (unhide HBX).cell (i := 1) rfl
    by_cases hsR : s < R.length
    case neg =>
      have hsi : ¬ (s : Int) < R.length := by omega
      have HQ := hide (l1Once_any cb n v 25 wr (unhide HC) hn (by omega) (by omega))
      go_wp2_with fail
      refine (unhide HQ).mono ?_
      rintro e w1 ⟨one, rfl, hC, hk⟩
      replace HW := hide ((unhide HW).trans hk)
      replace HBX := hide ((unhide HBX).kept hk (fun e => by omega))
      replace HRO := hide ((unhide HRO).kept hk (fun b _ h1 _ e => by omega))
      replace HC := hide hC
      have hyl1 := Nat.lt_of_lt_of_le hyl hk.size
      clear hC hk HQ y1
      cases one with
      | false =>
        have HIN := hide fun (P : Nat → Prop) (W' : World) (hk : Kept P w1 W') (hP : ∀ b, w.heap.size ≤ b → ¬ P b) => recs_ints (((unhide HRO).kept hk (fun b _ h1 _ e => hP b (by omega) e)).recs (by omega))
        have hq2 : L.length ≤ 20000 := by omega
        go_wp2
        refine bodyPost_ret (v := .slice (some ⟨og, 0, none⟩) L.length oc) (by simp [results, Try.results57, go_sem]) rfl (oAns_of _ _ _ _ (unhide HIN) hq2 (unhide HC) (unhide HW))
      | true =>
        have HQ := hide (l1BelowV_any cb n v 9 w1 (unhide HC) hn (by omega) (by omega))
        go_wp2_with fail
        refine (unhide HQ).mono ?_
        rintro e w2 ⟨x, rfl, hx0, hx1, hC, hk⟩
        replace HW := hide ((unhide HW).trans hk)
        replace HBX := hide ((unhide HBX).kept hk (fun e => by omega))
        replace HRO := hide ((unhide HRO).kept hk (fun b _ h1 _ e => by omega))
        replace HC := hide hC
        have hyl2 := Nat.lt_of_lt_of_le hyl1 hk.size
        clear hC hk HQ
        have hb := Below.alloc1 w2 (.cells #[.int .i64 x] 3)
        have HXA := hide (recs_oneI w2 x 3)
        replace HW := hide ((unhide HW).trans (kept_of_below hb))
        replace HC := hide ((unhide HC).below hb)
        replace HBX := hide ((unhide HBX).step hb)
        replace HRO := hide ((unhide HRO).below hb)
        have hyl3 := Nat.lt_of_lt_of_le hyl2 hb.size
        obtain ⟨w3, ew3⟩ : ∃ z, z = w2.alloc (.cells #[.int .i64 x] 3) := ⟨_, rfl⟩
        obtain ⟨ga, ega⟩ : ∃ z, z = w2.heap.size := ⟨_, rfl⟩
        rw [← ew3] at HXA HBX HC HW HRO hyl3
        rw [← ega] at HXA
        clear hb
        go_wp2_with (at_builtin; rw [← ew3, ← ega]; refine wpList_appTo tyI _ rfl _ _ rfl (gy + 1) og L.length oc L rfl (unhide HRO) (Nat.succ_le_of_lt hyl3) (by omega) (some ⟨ga, 0, none⟩) 1 1 [x] rfl (unhide HXA) (by omega) ?_; intro g1 c1 w5 hr1 hk5 hor; have HR1 := hide hr1; have hogy : gy + 1 ≤ og := (by rcases (unhide HRO).parts (by omega) with ⟨e2, _⟩ | ⟨b', e2, h1, _⟩; (cases e2); (simp only [Option.some.injEq, Addr.mk.injEq, and_true] at e2; omega)); replace HC := hide ((unhide HC).kept hk5 (fun b e => by omega)); replace HW := hide (keptNew (unhide HW) hk5 (fun b e => by omega)); clear hr1 hk5 hor HXA HBX HRO)
        have HIN := hide fun (P : Nat → Prop) (W' : World) (hk : Kept P w5 W') (hP : ∀ b, w.heap.size ≤ b → ¬ P b) => recs_ints (((unhide HR1).kept hk (fun b _ h1 _ e => hP b (by omega) e)).recs (by omega))
        have hq2 : (L ++ [x]).length ≤ 20000 := by rw [List.length_append]; simp; omega
        refine bodyPost_ret (v := .slice (some ⟨g1, 0, none⟩) (L.length + 1) c1) (by simp [results, Try.results57, go_sem]) rfl (oAns_of _ _ _ _ (unhide HIN) hq2 (unhide HC) (unhide HW))
    have hsi : (s : Int) < R.length := by omega
    obtain ⟨ml, eml⟩ : ∃ z, z = (R.getD s []).length := ⟨_, rfl⟩
    have hml : ml ≤ 100 := by rw [eml]; exact unhide HRL s hsR
    have HML := hide eml.symm
    clear eml
    go_wp2
    clear y1
    go_loopg [5, 7] ml (fun gg ov tv wr => ∃ (t og oc : Nat) (L : List Int), t ≤ ml ∧ gg = ml - t ∧ ov = .slice (some ⟨og, 0, none⟩) L.length oc ∧ tv = .int .i64 t ∧ L.length ≤ 101 * s + t ∧ gy < wr.heap.size ∧ Hid (RowB 3 1 eI (gy + 1) wr (some ⟨og, 0, none⟩) L.length oc L) ∧ Hid (OwnV wr gy [.int .i64 H, .slice ao R.length c]) ∧ Hid (Cur wr cb v n) ∧ Hid (Kept (fun b => b = cb) w wr))
    case atStart => exact ⟨0, og, oc, L, Nat.zero_le _, rfl, rfl, rfl, by omega, hyl, HRO, HBX, HC, HW⟩
    case round =>
      clear HRO HBX HC HW hyl hL
      obtain ⟨t, og, oc, L, ht, rfl, rfl, rfl, hL, hyl, HRO, HBX, HC, HW⟩ := hrel
      obtain ⟨ao', c', e, _, _, hcc⟩ := unhide HRR _ (unhide HW)
      simp only [Value.slice.injEq] at e
      obtain ⟨rfl, -, rfl⟩ := e
      obtain ⟨b, o, ar, m0, cr, rfl, hcell, hrow, EM, hm0⟩ := rowAt hcc hsR
      obtain rfl : m0 = ml := (unhide EM).symm.trans (unhide HML)
      have y1 := (unhide HBX).cell (i := 1) rfl
      by_cases htm : t < m0
      case neg =>
        have hti : ¬ (t : Int) < m0 := by omega
        clear hcc hrow
        go_wp2
        go_roundg (R.length - (s + 1))
        case measure => omega
        case rel => exact ⟨s + 1, og, oc, L, by omega, rfl, rfl, by go_num, by omega, hyl, HRO, HBX, HC, HW⟩
      have hti : (t : Int) < m0 := by omega
      have HQ := hide (l1Once_any cb n v 2 wr (unhide HC) hn (by omega) (by omega))
      clear hcc hrow
      go_wp2_with fail
      refine (unhide HQ).mono ?_
      rintro e w1 ⟨one, rfl, hC, hk⟩
      replace HW := hide ((unhide HW).trans hk)
      replace HBX := hide ((unhide HBX).kept hk (fun e => by omega))
      replace HRO := hide ((unhide HRO).kept hk (fun b _ h1 _ e => by omega))
      replace HC := hide hC
      have hyl1 := Nat.lt_of_lt_of_le hyl hk.size
      clear hC hk HQ y1 hcell EM hm0
      cases one with
      | true =>
        go_wp2
        go_roundg (m0 - (t + 1))
        case measure => omega
        case rel => exact ⟨t + 1, og, oc, L, by omega, rfl, rfl, by go_num, by omega, hyl1, HRO, HBX, HC, HW⟩
      | false =>
      obtain ⟨q, eq⟩ : ∃ z, z = L.length := ⟨_, rfl⟩
      rw [← eq] at HRO hL ⊢
      have HEQ := hide eq
      clear eq
      have hw1 : IntKind.i64.wrap ((q : Int) + 1) = (q : Int) + 1 := by rw [IntKind.wrap_i64]; omega
      have HQ := hide (l1BelowV_any cb n v ((q : Int) + 1) w1 (unhide HC) hn (by omega) (by omega))
      go_wp2_with fail
      refine (unhide HQ).mono ?_
      rintro e w2 ⟨kx, rfl, hx0, hx1, hC, hk⟩
      replace HW := hide ((unhide HW).trans hk)
      replace HBX := hide ((unhide HBX).kept hk (fun e => by omega))
      replace HRO := hide ((unhide HRO).kept hk (fun b _ h1 _ e => by omega))
      replace HC := hide hC
      have hyl2 := Nat.lt_of_lt_of_le hyl1 hk.size
      clear hC hk HQ
      obtain ⟨kk, rfl⟩ : ∃ z : Nat, kx = (z : Int) := ⟨kx.toNat, by omega⟩
      have hkq : kk ≤ q := by omega
      have hkqi : (kk : Int) ≤ q := by omega
      have hcap : q ≤ oc := (recs_len ((unhide HRO).recs (by omega))).2.1
      go_upto_region 10 with (fail)
      go_cut [9] (fun s9 wx => ∃ (gr crr : Nat) (x : Int), s9 = .slice (some ⟨gr, 0, none⟩) (1 + (q - kk)) crr ∧ Hid (RecsIn 1 eI wx (.slice (some ⟨gr, 0, none⟩) (1 + (q - kk)) crr) ([x] ++ L.drop kk)) ∧ Hid (Below w2.heap.size w2 wx))
      case first =>
        obtain ⟨wd, ewd⟩ : ∃ z, z = w2.drew := ⟨_, rfl⟩
        have hb : Below w2.heap.size w2 wd := by rw [ewd]; exact (Below.refl _ _).drew
        have hyd := Nat.lt_of_lt_of_le hyl2 hb.size
        have HBD := hide hb
        replace HW := hide ((unhide HW).trans (kept_of_below hb))
        replace HC := hide ((unhide HC).below hb)
        replace HBX := hide ((unhide HBX).step hb)
        replace HRO := hide ((unhide HRO).below hb)
        clear hb
        obtain ⟨ao', c', e, _, _, hcc⟩ := unhide HRR _ (unhide HW)
        simp only [Value.slice.injEq] at e
        obtain ⟨rfl, -, rfl⟩ := e
        obtain ⟨b', o', ar, m1, cr, e, hcell, hrow, EM, hm0⟩ := rowAt hcc hsR
        simp only [Option.some.injEq, Addr.mk.injEq, and_true] at e
        obtain ⟨rfl, rfl⟩ := e
        obtain rfl : m0 = m1 := (unhide HML).symm.trans (unhide EM)
        obtain ⟨a2, c2, e, _, _, hrc⟩ := hrow
        simp only [Value.slice.injEq] at e
        obtain ⟨rfl, -, rfl⟩ := e
        obtain ⟨b2, o2, rfl, hx⟩ := hrc t (by rw [unhide HML]; exact htm)
        obtain ⟨x, ex⟩ : ∃ z, z = (R.getD s []).getD t 0 := ⟨_, rfl⟩
        rw [← ex] at hx
        have y1 := (unhide HBX).cell (i := 1) rfl
        clear hcc hrc EM ex
        obtain ⟨da, eda⟩ : ∃ da : Option Addr, da = (if oc = kk then (some ⟨og, 0, none⟩ : Option Addr) else (some ⟨og, 0, none⟩ : Option Addr).map (·.add (kk * 1))) := ⟨_, rfl⟩
        have hsl : ∀ V, (Instr.slice 30 (.slice (some ⟨og, 0, none⟩) q oc) (some (.int .i64 (kk : Int))) none none).run Try.prog V = .ok (.slice da (q - kk) (oc - kk)) V := fun V => by rw [eda]; simp [go_sem, hkqi]
        have hsl2 : ∀ V, (Instr.sliceAt 30 (.slice (some ⟨og, 0, none⟩) q oc) (some (.int .i64 (kk : Int))) none none).run Try.prog V = .ok (.slice da (q - kk) (oc - kk)) V := fun V => by rw [eda]; simp [go_sem, hkqi]
        have HRD := hide (recs_drop (k := kk) ((unhide HRO).recs (by omega)))
        rw [← eda] at HRD
        clear eda
        refine wp_region_held_drew (S := fun w' => w'.cell? ⟨gy, 1, none⟩ = some (.slice (some ⟨b, o, none⟩) R.length c) ∧ w'.cell? ⟨b, o + s, none⟩ = some (.slice (some ⟨b2, o2, none⟩) m0 cr) ∧ w'.cell? ⟨b2, o2 + t, none⟩ = some (.int .i64 x)) (by kernel_rfl) ⟨by rw [← ewd]; exact y1, by rw [← ewd]; exact hcell, by rw [← ewd]; exact hx⟩ (fun hHeld => ?_)
        rw [← ewd] at hHeld ⊢
        clear ewd
        refine wpAnyH_take (i := 0) (v := ?_) rfl (by kernel_rfl) (by kernel_rfl) (by kernel_rfl) (fun _ _ _ h => h) (Or.inl ⟨by rfl, ?_⟩) (by assumption) ?_
        rotate_left
        · intro wy hSw
          obtain ⟨hS0, hS1, hS2⟩ := hSw
          go_simp
          try with_reducible rfl
        try simp only [Act.put, List.getElem_toArray, List.getElem_cons_zero, List.setIfInBounds_toArray, List.set_cons_zero, List.set_cons_succ]
        refine wpAnyH_take (i := 1) (v := ?_) rfl (by kernel_rfl) (by kernel_rfl) (by kernel_rfl) (fun _ _ _ h => h) (Or.inl ⟨by rfl, ?_⟩) (by assumption) ?_
        rotate_left
        · intro wy hSw
          obtain ⟨hS0, hS1, hS2⟩ := hSw
          go_simp
          try with_reducible rfl
        try simp only [Act.put, List.getElem_toArray, List.getElem_cons_succ, List.getElem_cons_zero, List.setIfInBounds_toArray, List.set_cons_zero, List.set_cons_succ]
        refine wpAnyH_take (i := 2) (v := ?_) rfl (by kernel_rfl) (by kernel_rfl) (by kernel_rfl) (fun _ _ _ h => h) (Or.inl ⟨by rfl, ?_⟩) (by assumption) ?_
        rotate_left
        · intro wy hSw
          obtain ⟨hS0, hS1, hS2⟩ := hSw
          go_simp
          try with_reducible rfl
        try simp only [Act.put, List.getElem_toArray, List.getElem_cons_succ, List.getElem_cons_zero, List.setIfInBounds_toArray, List.set_cons_zero, List.set_cons_succ]
        refine wpAnyH_take (i := 3) (v := ?_) rfl (by kernel_rfl) (by kernel_rfl) (by kernel_rfl) (fun _ _ _ h => h) (Or.inl ⟨by rfl, ?_⟩) (by assumption) ?_
        rotate_left
        · intro wy hSw
          obtain ⟨hS0, hS1, hS2⟩ := hSw
          go_simp
          try with_reducible rfl
        try simp only [Act.put, List.getElem_toArray, List.getElem_cons_succ, List.getElem_cons_zero, List.setIfInBounds_toArray, List.set_cons_zero, List.set_cons_succ]
        refine wpAnyH_take (i := 4) (v := ?_) rfl (by kernel_rfl) (by kernel_rfl) (by kernel_rfl) (fun _ _ _ h => h) (Or.inl ⟨by rfl, ?_⟩) (by assumption) ?_
        rotate_left
        · intro wy hSw
          obtain ⟨hS0, hS1, hS2⟩ := hSw
          go_simp
          try with_reducible rfl
        try simp only [Act.put, List.getElem_toArray, List.getElem_cons_succ, List.getElem_cons_zero, List.setIfInBounds_toArray, List.set_cons_zero, List.set_cons_succ]
        refine wpAnyH_take (i := 5) (v := ?_) rfl (by kernel_rfl) (by kernel_rfl) (by kernel_rfl) (fun _ _ _ h => h) (Or.inl ⟨by rfl, ?_⟩) (by assumption) ?_
        rotate_left
        · intro wy hSw
          obtain ⟨hS0, hS1, hS2⟩ := hSw
          go_simp
          try with_reducible rfl
        try simp only [Act.put, List.getElem_toArray, List.getElem_cons_succ, List.getElem_cons_zero, List.setIfInBounds_toArray, List.set_cons_zero, List.set_cons_succ]
        refine wpAnyH_take (i := 6) (v := ?_) rfl (by kernel_rfl) (by kernel_rfl) (by kernel_rfl) (fun _ _ _ h => h) (Or.inl ⟨by rfl, ?_⟩) (by assumption) ?_
        rotate_left
        · intro wy hSw
          obtain ⟨hS0, hS1, hS2⟩ := hSw
          go_simp
          try with_reducible rfl
        try simp only [Act.put, List.getElem_toArray, List.getElem_cons_succ, List.getElem_cons_zero, List.setIfInBounds_toArray, List.set_cons_zero, List.set_cons_succ]
        refine wpAnyH_take (i := 7) (v := ?_) rfl (by kernel_rfl) (by kernel_rfl) (by kernel_rfl) (fun _ _ _ h => h) (Or.inl ⟨by rfl, ?_⟩) (by assumption) ?_
        rotate_left
        · intro wy hSw
          obtain ⟨hS0, hS1, hS2⟩ := hSw
          go_simp
          try with_reducible rfl
        try simp only [Act.put, List.getElem_toArray, List.getElem_cons_succ, List.getElem_cons_zero, List.setIfInBounds_toArray, List.set_cons_zero, List.set_cons_succ]
        refine wpAnyH_take (i := 9) (v := ?_) rfl (by kernel_rfl) (by kernel_rfl) (by kernel_rfl) (fun _ _ _ h => h) (Or.inl ⟨by rfl, ?_⟩) (by assumption) ?_
        rotate_left
        · intro wy hSw
          obtain ⟨hS0, hS1, hS2⟩ := hSw
          go_simp
          try with_reducible rfl
        try simp only [Act.put, List.getElem_toArray, List.getElem_cons_succ, List.getElem_cons_zero, List.setIfInBounds_toArray, List.set_cons_zero, List.set_cons_succ]
        refine wpAnyH_take (i := 10) (v := ?_) rfl (by kernel_rfl) (by kernel_rfl) (by kernel_rfl) (fun _ _ _ h => h) (Or.inl ⟨by rfl, ?_⟩) (by assumption) ?_
        rotate_left
        · intro wy hSw
          obtain ⟨hS0, hS1, hS2⟩ := hSw
          go_simp
          try with_reducible rfl
        try simp only [Act.put, List.getElem_toArray, List.getElem_cons_succ, List.getElem_cons_zero, List.setIfInBounds_toArray, List.set_cons_zero, List.set_cons_succ]
        refine wpAnyH_take (i := 11) (v := ?_) rfl (by kernel_rfl) (by kernel_rfl) (by kernel_rfl) (fun _ _ _ h => h) (Or.inl ⟨by rfl, ?_⟩) (by assumption) ?_
        rotate_left
        · intro wy hSw
          obtain ⟨hS0, hS1, hS2⟩ := hSw
          go_simp
          try with_reducible rfl
        try simp only [Act.put, List.getElem_toArray, List.getElem_cons_succ, List.getElem_cons_zero, List.setIfInBounds_toArray, List.set_cons_zero, List.set_cons_succ]
        refine wpAnyH_ready (rs := [8]) (by kernel_rfl) (by simp) ?_
        refine AllReadyH.cons rfl (fun K hK => ?_) AllReadyH.nil
        have hlb1 : b < wd.heap.size := lt_of_cell hcell
        have hlb2 : b2 < wd.heap.size := lt_of_cell hx
        have hb := Below.alloc1 wd (.cells #[.int .i64 x] 3)
        have HB1 := hide (rowB_one wd (gy + 1) x (Nat.succ_le_of_lt hyd))
        go_simp
        obtain ⟨wa, ewa⟩ : ∃ z, z = wd.alloc (.cells #[.int .i64 x] 3) := ⟨_, rfl⟩
        obtain ⟨ga, ega⟩ : ∃ z, z = wd.heap.size := ⟨_, rfl⟩
        rw [← ewa] at hb HB1 ⊢
        rw [← ega] at HB1 ⊢
        replace HRD := hide ((unhide HRD).below hb)
        have y1 := wcell3 y1 hb
        have hcell := wcell3 hcell hb
        have hx := wcell3 hx hb
        have HBA := hide (Below.step (unhide HBD) hb)
        have hya := Nat.lt_of_lt_of_le hyd hb.size
        have hga : w2.heap.size ≤ ga := by rw [ega]; exact (unhide HBD).size
        have hgx : gy < ga := by omega
        have hga2 : wd.heap.size ≤ ga := by rw [ega]; exact Nat.le_refl _
        clear hb ewa ega
        refine hK.out _ _ ⟨y1, hcell, hx⟩ (fun hHeld => ?_)
        clear hK K
        try simp only [Act.put, List.setIfInBounds_toArray, List.set_cons_zero, List.set_cons_succ]
        refine wpAnyH_ready (rs := [12]) (by kernel_rfl) (by simp) ?_
        refine AllReadyH.cons rfl (fun K hK => ?_) AllReadyH.nil
        refine step_appTo tyI (by rfl) (.tmp 43) (.tmp 46) (by rfl) (gy + 1) ga 1 1 [x] (by rfl) (unhide HB1) (Nat.succ_le_of_lt hya) (by omega) da (q - kk) (oc - kk) (L.drop kk) (by rfl) (unhide HRD) (by omega) ?_
        intro g1 c1 w5 hr1 hk5 hor
        have HLR := hide (hr1.recs (by omega))
        have HB5 := hide ((unhide HBA).trans (hk5.below (unhide HBA).size (fun q e => by omega)))
        have y1 := kept_cellA y1 hk5 (by omega)
        have hcell := kept_cellA hcell hk5 (by omega)
        have hx := kept_cellA hx hk5 (by omega)
        clear hr1 hk5 hor
        refine hK.out _ _ ⟨y1, hcell, hx⟩ (fun hHeld => ?_)
        clear hK K
        try simp only [Act.put, List.setIfInBounds_toArray]
        refine wpAnyH_take (i := 13) (v := ?_) rfl (by kernel_rfl) (by kernel_rfl) (by kernel_rfl) (fun _ _ _ h => h) (Or.inl ⟨by rfl, ?_⟩) (by assumption) ?_
        rotate_left
        · intro wy hSw
          obtain ⟨hS0, hS1, hS2⟩ := hSw
          go_simp
          try with_reducible rfl
        try simp only [Act.put, List.getElem_toArray, List.getElem_cons_succ, List.getElem_cons_zero, List.setIfInBounds_toArray, List.set_cons_zero, List.set_cons_succ]
        refine wpAnyH_done (by kernel_rfl) ?_ _
        go_wp2_with fail
        go_meet
        exact ⟨g1, c1, x, rfl, HLR, HB5⟩
      case rest =>
        obtain ⟨gr, crr, x, rfl, HLR, hb0⟩ := hcut
        have hb := unhide hb0
        replace HW := hide ((unhide HW).trans (kept_of_below hb))
        replace HC := hide ((unhide HC).below hb)
        replace HBX := hide ((unhide HBX).step hb)
        replace HRO := hide ((unhide HRO).below hb)
        have hyl3 := Nat.lt_of_lt_of_le hyl2 hb.size
        clear hb hb0
        have hgrl0 := recs_lt (unhide HLR)
        have A := Below.alloc1 wc (.cells #[] 3)
        have HN := hide (rowB_new (α := Int) 3 1 eI wc (gy + 1) (by omega))
        have HRT := hide (recs_take (k := kk) (((unhide HRO).below A).recs (by omega)) hkq)
        have hcapk : (kk : Int) ≤ oc := by omega
        have hs1 := fun V => slice_hiI (ba := some ⟨og, 0, none⟩) (m := q) ⟨_, rfl⟩ hcapk V
        have hs2 := fun V => sliceAt_hiI (ba := some ⟨og, 0, none⟩) (m := q) ⟨_, rfl⟩ hcapk V
        replace HLR := hide ((unhide HLR).below A)
        have HA := hide A
        have hyl4 := Nat.lt_of_lt_of_le hyl3 A.size
        clear A HRO
        obtain ⟨w4, ew4⟩ : ∃ z, z = wc.alloc (.cells #[] 3) := ⟨_, rfl⟩
        obtain ⟨ge, ege⟩ : ∃ z, z = wc.heap.size := ⟨_, rfl⟩
        rw [← ew4] at HN HRT HLR HA hyl4
        rw [← ege] at HN hgrl0
        have hgrl : Hid (∀ W', Kept (fun b => b = ge) w4 W' → RecsIn 1 eI W' (.slice (some ⟨gr, 0, none⟩) (1 + (q - kk)) crr) ([x] ++ L.drop kk)) := fun W' hk => recs_kept (unhide HLR) hk (fun e => by omega)
        go_wp2_with (at_builtin; first | ((have xx := unhide HL1; clear xx); go_must (refine wpList_appTo tyI _ rfl (.tmp 52) (.tmp 53) rfl (gy + 1) g1 kk c1 (L.take kk) rfl (unhide HL1) (Nat.succ_le_of_lt hyl5) (by omega) (some ⟨gr, 0, none⟩) (1 + (q - kk)) crr ([x] ++ L.drop kk) rfl (unhide HLR1) (by omega) ?_); intro g2 c2 w6 hL2 hK hor; have HL2 := hide hL2; have hyl6 := Nat.lt_of_lt_of_le hyl5 hK.size; have HBX6 := hide ((unhide HBX5).kept hK (fun e => by omega)); have HC6 := hide ((unhide HC5).kept hK (fun b e => by omega)); have HW6 := hide (keptNew (unhide HW5) hK (fun b e => by omega)); clear hL2 hK hor) | (rw [← ew4, ← ege]; go_must (refine wpList_appTo tyI _ rfl (.tmp 48) (.tmp 51) rfl (gy + 1) ge 0 0 [] rfl (unhide HN) (Nat.succ_le_of_lt hyl4) (by omega) (some ⟨og, 0, none⟩) kk oc (L.take kk) rfl (unhide HRT) (by omega) ?_); intro g1 c1 w5 hL1 hK hor; simp only [Nat.zero_add, List.nil_append] at hL1 ⊢; have HL1 := hide hL1; have HLR1 := hide (unhide hgrl _ hK); have hyl5 := Nat.lt_of_lt_of_le hyl4 hK.size; have hg1 : gy + 1 ≤ g1 := (by omega); have HBX5 := hide (((unhide HBX).step (unhide HA)).kept hK (fun e => by omega)); have HC5 := hide (((unhide HC).below (unhide HA)).kept hK (fun b e => by omega)); have HW5 := hide (keptNew ((unhide HW).trans (kept_of_below (unhide HA))) hK (fun b e => by omega)); clear hL1 hK hor))
        have hl9 : (L.take kk ++ ([x] ++ L.drop kk)).length = kk + (1 + (q - kk)) := by rw [List.length_append, List.length_append, List.length_take, List.length_drop, ← unhide HEQ]; simp; omega
        go_roundg (m0 - (t + 1))
        case measure => omega
        case rel => exact ⟨t + 1, g2, c2, L.take kk ++ ([x] ++ L.drop kk), by omega, rfl, by rw [hl9], by go_num, by omega, hyl6, by rw [hl9]; exact HL2, HBX6, HC6, HW6⟩

end Go.Proofs.Ytdiifkeebgdfkaa

namespace Go.Proofs.Ytdiifkeebgdfkaa
open Go.RowKit

theorem bytes_up {B B' : Nat} {w : World} {v : Value} {n : Nat} (h : BytesIn B w v n) (hB : B ≤ B') : BytesIn B' w v n := by
  obtain ⟨ao, cap, e, h1, h2, h3⟩ := h
  refine ⟨ao, cap, e, h1, h2, fun i hi => ?_⟩
  obtain ⟨b, o, x, e1, hlt, hc⟩ := h3 i hi
  exact ⟨b, o, x, e1, by omega, hc⟩
/-- A yard and an order that can be read, and a number. -/
def LAns (w : World) (e : Ending) (w' : World) : Prop :=
  ∃ H ao m c R g q oc L x, e = .returned (.tuple #[yardV H (.slice ao m c), .slice (some ⟨g, 0, none⟩) q oc, .int .i64 x]) ∧ RowsIn w' (.slice ao m c) R ∧ IntsIn w' (.slice (some ⟨g, 0, none⟩) q oc) L ∧ R.length ≤ 100 ∧ (∀ s, s < R.length → (R.getD s []).length ≤ 100) ∧ L.length ≤ 20000 ∧ Below w.heap.size w w'
theorem lAns_of {w w' : World} (H : Int) (ao : Option Addr) (m c : Nat) (R : List (List Int)) (g q oc : Nat) (L : List Int) (x : Int) (h1 : RowsIn w' (.slice ao m c) R) (h2 : IntsIn w' (.slice (some ⟨g, 0, none⟩) q oc) L) (h3 : R.length ≤ 100) (h4 : ∀ s, s < R.length → (R.getD s []).length ≤ 100) (h5 : L.length ≤ 20000) (h6 : Below w.heap.size w w') :
    LAns w (.returned (.tuple #[yardV H (.slice ao m c), .slice (some ⟨g, 0, none⟩) q oc, .int .i64 x])) w' := ⟨H, ao, m, c, R, g, q, oc, L, x, rfl, h1, h2, h3, h4, h5, h6⟩

set_option maxRecDepth 100000 in
set_option maxHeartbeats 16000000 in
theorem DrawLeastShuffles_any (v : Value) (n : Nat) (w : World) (h : BytesIn w.heap.size w v n) (hn : n ≤ 1048576) :
    Calls Try.prog 18 #[v] w fun e w' => LAns w e w' := by
  have hA := Below.alloc1 w (.cells #[.int .i64 0, .slice none 0 0] 26)
  have HR := hide (ownV_alloc w #[.int .i64 0, .slice none 0 0] 26)
  have HBY := hide (h.below hA (by simp))
  have HW := hide hA
  clear h
  go_enter Try.func18, Try.ntmps18
  go_upto_region 1 with (fail)
  obtain ⟨gr, egr⟩ : ∃ z, z = w.heap.size := ⟨_, rfl⟩
  obtain ⟨W0, eW0⟩ : ∃ z, z = w.alloc (.cells #[.int .i64 0, .slice none 0 0] 26) := ⟨_, rfl⟩
  rw [← eW0] at HR HW HBY hA ⊢
  rw [← egr] at HR ⊢
  have hgr : w.heap.size ≤ gr := by omega
  have hrl := (unhide HR).lt
  have HQ := hide (l1New_any v n W0 (bytes_up (unhide HBY) hA.size) hn)
  clear hA egr eW0
  go_wp2_with fail
  refine (unhide HQ).mono ?_
  rintro e w1 ⟨rfl, hC, hb, hs1⟩
  replace HR := hide ((unhide HR).step hb)
  replace HW := hide (Below.step (unhide HW) hb)
  have HC := hide hC
  obtain ⟨cb, ecb⟩ : ∃ z, z = W0.heap.size := ⟨_, rfl⟩
  rw [← ecb] at HC ⊢
  have hrc : gr < cb := by omega
  have hcw : w.heap.size ≤ cb := by omega
  clear hC hb hs1 HQ HBY ecb hrl
  have HQ := hide (l1BelowV_any cb n v 3 w1 (unhide HC) hn (by omega) (by omega))
  go_wp2_with fail
  refine (unhide HQ).mono ?_
  rintro e w2 ⟨x, rfl, hx0, hx1, hC, hk⟩
  replace HW := hide ((unhide HW).trans (hk.below (unhide HW).size (fun b e => by omega)))
  replace HR := hide ((unhide HR).kept hk (fun e => by omega))
  replace HC := hide hC
  clear hC hk HQ
  obtain ⟨k0, rfl⟩ : ∃ z : Nat, x = (z : Int) := ⟨x.toNat, by omega⟩
  obtain ⟨k, ek⟩ : ∃ z : Nat, z = 1 + k0 := ⟨_, rfl⟩
  have hkw : IntKind.i64.wrap (1 + (k0 : Int)) = 1 + (k0 : Int) := by rw [IntKind.wrap_i64]; omega
  have hk1 : 1 ≤ k ∧ k ≤ 3 := by omega
  have HQ := hide (l1BelowV_any cb n v 8 w2 (unhide HC) hn (by omega) (by omega))
  go_wp2_with fail
  refine (unhide HQ).mono ?_
  rintro e w3 ⟨y, rfl, hy0, hy1, hC, hk⟩
  replace HW := hide ((unhide HW).trans (hk.below (unhide HW).size (fun b e => by omega)))
  replace HR := hide ((unhide HR).kept hk (fun e => by omega))
  replace HC := hide hC
  have hc2 := (unhide HC).lt
  clear hC hk HQ
  obtain ⟨m, rfl⟩ : ∃ z : Nat, y = (z : Int) := ⟨y.toNat, by omega⟩
  have HQ := hide (l18Draw_any cb n v k m w3 (unhide HC) hn (by omega) (by omega) (by omega))
  unfold yardV at HQ
  go_wp2_with fail
  rw [show (1 + (k0 : Int)) = (k : Int) by omega]
  refine (unhide HQ).mono ?_
  rintro e w4 ⟨H, g, B, A, C, R, rfl, HY, HO, hRk, -, hgw, hB3, hC, hk⟩
  replace HW := hide ((unhide HW).trans (hk.below (unhide HW).size (fun b e => by omega)))
  replace HR := hide ((unhide HR).kept hk (fun e => by omega))
  replace HC := hide hC
  clear hC hk HQ hkw
  have HEK := hide ek
  clear ek
  have hgB : g < B := (unhide HY).gB
  have HRR : Hid (∀ (P : Nat → Prop) W', Kept P w4 W' → (∀ b, w3.heap.size ≤ b → ¬ P b) → RowsIn W' (.slice (some ⟨g, 0, none⟩) k k) R) := fun P W' hk hP => by
    have h9 := ((unhide HY).kept hk (hP g hgw) (fun b h1 _ => hP b (by omega))).rows (c := k) (by omega) (by unfold maxLen; omega)
    rw [hRk] at h9
    exact h9
  have HRL : Hid (R.length ≤ 100 ∧ ∀ s, s < R.length → (R.getD s []).length ≤ 100) := ⟨by omega, fun s hs => by
    have h1 := (unhide HO).low s hs
    have h2 := (unhide HO).h2
    omega⟩
  have hw34 : w3.heap.size ≤ w4.heap.size := by have := (unhide HY).top.lt; omega
  have HKX := hide (Kept.refl (fun b => b = cb) w4)
  clear HY HO hRk hgB
  have hA := Below.alloc1 w4 (.cells #[.int .i64 H, .slice (some ⟨g, 0, none⟩) k k] 26)
  have HBX := hide (ownV_alloc w4 #[.int .i64 H, .slice (some ⟨g, 0, none⟩) k k] 26)
  replace HW := hide (Below.step (unhide HW) hA)
  replace HC := hide ((unhide HC).below hA)
  replace HR := hide ((unhide HR).step hA)
  replace HKX := hide ((unhide HKX).trans (kept_of_below hA))
  clear hA
  go_upto_region 3 with (fail)
  obtain ⟨gy, egy⟩ : ∃ z, z = w4.heap.size := ⟨_, rfl⟩
  obtain ⟨w5, ew5⟩ : ∃ z, z = w4.alloc (.cells #[.int .i64 H, .slice (some ⟨g, 0, none⟩) k k] 26) := ⟨_, rfl⟩
  rw [← ew5] at HR HC HW HKX HBX ⊢
  rw [← egy] at HBX ⊢
  have hgy : w3.heap.size ≤ gy := by omega
  have hgy4 : w4.heap.size ≤ gy := by omega
  have hcy : cb < gy := by omega
  clear egy ew5
  have HQ := hide (l1Once_any cb n v 20 w5 (unhide HC) hn (by omega) (by omega))
  go_wp2_with fail
  refine (unhide HQ).mono ?_
  rintro e w6 ⟨one, rfl, hC, hk⟩
  replace HW := hide ((unhide HW).trans (hk.below (unhide HW).size (fun b e => by omega)))
  replace HR := hide ((unhide HR).kept hk (fun e => by omega))
  replace HBX := hide ((unhide HBX).kept hk (fun e => by omega))
  replace HKX := hide ((unhide HKX).trans hk)
  replace HC := hide hC
  clear hC hk HQ
  cases one with
  | true =>
    have hc6 := (unhide HC).lt
    have hgs6 := (unhide HBX).lt
    have HQ := hide (l18DrawAny_any cb n v w6 (unhide HC) hn)
    go_wp2_with fail
    refine (unhide HQ).mono ?_
    rintro e w7 ⟨H2, ao, m2, c2, R2, rfl, hrr, hl1, hl2, hC, hk⟩
    replace HW := hide ((unhide HW).trans (hk.below (unhide HW).size (fun b e => by omega)))
    replace HR := hide ((unhide HR).kept hk (fun e => by omega))
    replace HBX := hide ((unhide HBX).kept hk (fun e => by omega))
    replace HC := hide hC
    have hsz7 := hk.size
    unfold yardV
    clear hC hk HQ
    have b0 := (unhide HBX).cell (i := 0) rfl
    have b1 := (unhide HBX).cell (i := 1) rfl
    have bf := (unhide HBX).frozen
    have HBN := hide (((unhide HBX).set 0 (.int .i64 H2) (by simp)).set 1 (.slice ao m2 c2) (by simp))
    have hKS := ((Kept.refl (fun b => b = gy) w7).setCell (p := ⟨gy, 0, none⟩) rfl (.int .i64 H2)).setCell (p := ⟨gy, 1, none⟩) rfl (.slice ao m2 c2)
    have HRR2 : Hid (∀ (P : Nat → Prop) W', Kept P w7 W' → (∀ b, w6.heap.size ≤ b → ¬ P b) → RowsIn W' (.slice ao m2 c2) R2) := hrr
    have HRL2 : Hid (R2.length ≤ 100 ∧ ∀ s, s < R2.length → (R2.getD s []).length ≤ 100) := ⟨hl1, hl2⟩
    have HKX2 := hide (hKS.mono (fun b _ (e : b = gy) => e))
    replace HR := hide ((unhide HR).kept hKS (fun e => by omega))
    replace HC := hide ((unhide HC).kept hKS (fun b e => by omega))
    replace HW := hide ((unhide HW).trans (hKS.below (unhide HW).size (fun b e => by omega)))
    clear hKS HBX hrr hl1 hl2 HRR HRL HKX
    have HBX := HBN
    clear HBN
    go_upto_region 5 with (fail)
    obtain ⟨w8, ew8⟩ : ∃ z, z = (w7.setCell ⟨gy, 0, none⟩ (.int .i64 H2)).setCell ⟨gy, 1, none⟩ (.slice ao m2 c2) := ⟨_, rfl⟩
    rw [← ew8] at HR HC HW HBX HKX2 ⊢
    clear ew8 b0 b1 bf
    have HRY : Hid (∀ (P : Nat → Prop) W', Kept P w8 W' → (∀ b, w6.heap.size ≤ b → ¬ P b) → RowsIn W' (.slice ao m2 c2) R2) := fun P W' hk hP => unhide HRR2 (fun b => b = gy ∨ P b) W' (((unhide HKX2).mono (fun b _ e => Or.inl e)).trans (hk.mono (fun b _ e => Or.inr e))) (fun b hb e => e.elim (fun e => by omega) (hP b hb))
    have HKX := hide (Kept.refl (fun b => b = cb) w8)
    clear HRR2 HKX2
    obtain ⟨wd, ewd⟩ : ∃ z, z = w8.drew := ⟨_, rfl⟩
    have hb : Below w8.heap.size w8 wd := by rw [ewd]; exact (Below.refl _ _).drew
    replace HW := hide (Below.step (unhide HW) hb)
    replace HC := hide ((unhide HC).below hb)
    replace HR := hide ((unhide HR).step hb)
    replace HBX := hide ((unhide HBX).step hb)
    replace HKX := hide ((unhide HKX).trans (kept_of_below hb))
    clear hb
    refine wp_region_held_drew (S := fun w' => w'.cell? ⟨gy, 0, none⟩ = some (.int .i64 H2) ∧ w'.cell? ⟨gy, 1, none⟩ = some (.slice ao m2 c2)) (by kernel_rfl) ⟨by rw [← ewd]; exact (unhide HBX).cell (i := 0) rfl, by rw [← ewd]; exact (unhide HBX).cell (i := 1) rfl⟩ (fun hHeld => ?_)
    rw [← ewd] at hHeld ⊢
    clear ewd
    refine wpAnyH_take (i := 0) (v := ?_) rfl (by kernel_rfl) (by kernel_rfl) (by kernel_rfl) (fun _ _ _ h => h) (Or.inl ⟨by rfl, ?_⟩) (by assumption) ?_
    rotate_left
    · intro wy hSw
      obtain ⟨hS0, hS1⟩ := hSw
      go_simp
      try with_reducible rfl
    try simp only [Act.put, List.getElem_toArray, List.getElem_cons_zero, List.setIfInBounds_toArray, List.set_cons_zero, List.set_cons_succ]
    refine wpAnyH_take (i := 1) (v := ?_) rfl (by kernel_rfl) (by kernel_rfl) (by kernel_rfl) (fun _ _ _ h => h) (Or.inl ⟨by rfl, ?_⟩) (by assumption) ?_
    rotate_left
    · intro wy hSw
      obtain ⟨hS0, hS1⟩ := hSw
      go_simp
      try with_reducible rfl
    try simp only [Act.put, List.getElem_toArray, List.getElem_cons_succ, List.getElem_cons_zero, List.setIfInBounds_toArray, List.set_cons_zero, List.set_cons_succ]
    refine wpAnyH_take (i := 2) (v := ?_) rfl (by kernel_rfl) (by kernel_rfl) (by kernel_rfl) (fun _ _ _ h => h) (Or.inl ⟨by rfl, ?_⟩) (by assumption) ?_
    rotate_left
    · intro wy hSw
      obtain ⟨hS0, hS1⟩ := hSw
      go_simp
      try with_reducible rfl
    try simp only [Act.put, List.getElem_toArray, List.getElem_cons_succ, List.getElem_cons_zero, List.setIfInBounds_toArray, List.set_cons_zero, List.set_cons_succ]
    refine wpAnyH_take (i := 4) (v := ?_) rfl (by kernel_rfl) (by kernel_rfl) (by kernel_rfl) (fun _ _ _ h => h) (Or.inl ⟨by rfl, ?_⟩) (by assumption) ?_
    rotate_left
    · intro wy hSw
      obtain ⟨hS0, hS1⟩ := hSw
      go_simp
      try with_reducible rfl
    try simp only [Act.put, List.getElem_toArray, List.getElem_cons_succ, List.getElem_cons_zero, List.setIfInBounds_toArray, List.set_cons_zero, List.set_cons_succ]
    refine wpAnyH_ready (rs := [3, 5]) (by kernel_rfl) (by simp) ?_
    refine AllReadyH.cons rfl (fun K hK => ?_) (AllReadyH.cons rfl (fun K hK => ?_) AllReadyH.nil)
    · go_simp
      have hcy2 := (unhide HC).lt
      have hgy2 := (unhide HBX).lt
      have HCQ := hide (l18DrawOrder_any cb n v H2 _ _ _ R2 wd (unhide HC) hn (fun W' hk => unhide HRY _ W' ((unhide HKX).trans hk) (fun b hb e => by omega)) (unhide HRL2).1 (unhide HRL2).2)
      unfold yardV at HCQ
      refine (unhide HCQ).mono ?_
      rintro e wo ⟨go, qo, oc, L, rfl, hin, hLl, hC, hk⟩
      have HIN : Hid (∀ (P : Nat → Prop) W', Kept P wo W' → (∀ b, wd.heap.size ≤ b → ¬ P b) → IntsIn W' (.slice (some ⟨go, 0, none⟩) qo oc) L) := hin
      have HLL := hide hLl
      replace HW := hide ((unhide HW).trans (hk.below (unhide HW).size (fun b e => by omega)))
      replace HR := hide ((unhide HR).kept hk (fun e => by omega))
      replace HBX := hide ((unhide HBX).kept hk (fun e => by omega))
      replace HKX := hide ((unhide HKX).trans hk)
      replace HC := hide hC
      have HKO := hide (Kept.refl (fun b => b = cb) wo)
      clear hC hk HCQ hin hLl
      refine hK.out _ _ ⟨(unhide HBX).cell (i := 0) rfl, (unhide HBX).cell (i := 1) rfl⟩ (fun hHeld => ?_)
      clear hK K
      try simp only [Act.put, List.setIfInBounds_toArray, List.set_cons_zero, List.set_cons_succ]
      refine wpAnyH_ready (rs := [5]) (by kernel_rfl) (by simp) ?_
      refine AllReadyH.cons rfl (fun K hK => ?_) AllReadyH.nil
      go_simp
      obtain ⟨ga, ega⟩ : ∃ z, z = wo.heap.size := ⟨_, rfl⟩
      obtain ⟨wa, ew⟩ : ∃ z, z = wo.alloc (.cells #[.int .i64 0, .int .i64 1, .int .i64 3, .int .i64 4, .int .i64 5, .int .i64 5, .int .i64 6, .int .i64 (-1), .int .i64 9, .int .i64 3, .int .i64 4, .int .i64 5] 3) := ⟨_, rfl⟩
      have hb : Below wo.heap.size wo wa := by rw [ew]; exact Below.alloc1 _ _
      have HXA : Hid (OwnV wa ga (ints [0, 1, 3, 4, 5, 5, 6, -1, 9, 3, 4, 5])) := by rw [ew, ega]; exact ownV_alloc wo #[.int .i64 0, .int .i64 1, .int .i64 3, .int .i64 4, .int .i64 5, .int .i64 5, .int .i64 6, .int .i64 (-1), .int .i64 9, .int .i64 3, .int .i64 4, .int .i64 5] 3
      have hga : gy < ga := by rw [ega]; exact (unhide HBX).lt
      rw [← ew, ← ega]
      replace HW := hide (Below.step (unhide HW) hb)
      replace HC := hide ((unhide HC).below hb)
      replace HR := hide ((unhide HR).step hb)
      replace HBX := hide ((unhide HBX).step hb)
      replace HKX := hide ((unhide HKX).trans (kept_of_below hb))
      replace HKO := hide ((unhide HKO).trans (kept_of_below hb))
      clear hb ew ega
      refine hK.out _ _ ⟨(unhide HBX).cell (i := 0) rfl, (unhide HBX).cell (i := 1) rfl⟩ (fun hHeld => ?_)
      clear hK K
      try simp only [Act.put, List.setIfInBounds_toArray, List.set_cons_zero, List.set_cons_succ]
      refine wpAnyH_ready (rs := [6]) (by kernel_rfl) (by simp) ?_
      refine AllReadyH.cons rfl (fun K hK => ?_) AllReadyH.nil
      go_simp
      have HCQ := hide (l1PickInt_any cb n v ga 12 [0, 1, 3, 4, 5, 5, 6, -1, 9, 3, 4, 5] wa (unhide HC) hn (unhide HXA) (by omega) rfl (by omega) (by omega))
      refine (unhide HCQ).mono ?_
      rintro e wp ⟨xp, rfl, hC, hk⟩
      replace HW := hide ((unhide HW).trans (hk.below (unhide HW).size (fun b e => by omega)))
      replace HR := hide ((unhide HR).kept hk (fun e => by omega))
      replace HBX := hide ((unhide HBX).kept hk (fun e => by omega))
      replace HKX := hide ((unhide HKX).trans hk)
      replace HKO := hide ((unhide HKO).trans hk)
      replace HC := hide hC
      clear hC hk HCQ HXA
      refine hK.out _ _ ⟨(unhide HBX).cell (i := 0) rfl, (unhide HBX).cell (i := 1) rfl⟩ (fun hHeld => ?_)
      clear hK K
      try simp only [Act.put, List.setIfInBounds_toArray, List.set_cons_zero, List.set_cons_succ]
      refine wpAnyH_ready (rs := [7]) (by kernel_rfl) (by simp) ?_
      refine AllReadyH.cons rfl (fun K hK => ?_) AllReadyH.nil
      have r0 := (unhide HR).cell (i := 0) rfl
      have r1 := (unhide HR).cell (i := 1) rfl
      have rf := (unhide HR).frozen
      have HN := hide (((unhide HR).set 0 (.int .i64 H2) (by simp)).set 1 (.slice ao m2 c2) (by simp))
      have hKS := ((Kept.refl (fun b => b = gr) wp).setCell (p := ⟨gr, 0, none⟩) rfl (.int .i64 H2)).setCell (p := ⟨gr, 1, none⟩) rfl (.slice ao m2 c2)
      have HRF := hide (unhide HRY (fun b => b = cb ∨ b = gr) _ (((unhide HKX).mono (fun b _ e => Or.inl e)).trans (hKS.mono (fun b _ e => Or.inr e))) (fun b hb e => by omega))
      have HIF := hide (unhide HIN (fun b => b = cb ∨ b = gr) _ (((unhide HKO).mono (fun b _ e => Or.inl e)).trans (hKS.mono (fun b _ e => Or.inr e))) (fun b hb e => by omega))
      have HWF := hide ((unhide HW).trans (hKS.below (unhide HW).size (fun b e => by omega)))
      have HBF := hide ((unhide HBX).kept hKS (fun e => by omega))
      clear hKS
      go_simp
      clear r0 r1 rf
      refine hK.out _ _ ⟨(unhide HBF).cell (i := 0) rfl, (unhide HBF).cell (i := 1) rfl⟩ (fun hHeld => ?_)
      clear hK K
      try simp only [Act.put, List.setIfInBounds_toArray, List.set_cons_zero, List.set_cons_succ]
      refine wpAnyH_take (i := 8) (v := ?_) rfl (by kernel_rfl) (by kernel_rfl) (by kernel_rfl) (fun _ _ _ h => h) (Or.inl ⟨by rfl, ?_⟩) (by assumption) ?_
      rotate_left
      · intro wy hSw
        obtain ⟨hS0, hS1⟩ := hSw
        go_simp
        try with_reducible rfl
      try simp only [Act.put, List.getElem_toArray, List.getElem_cons_succ, List.getElem_cons_zero, List.setIfInBounds_toArray, List.set_cons_zero, List.set_cons_succ]
      refine wpAnyH_take (i := 9) (v := ?_) rfl (by kernel_rfl) (by kernel_rfl) (by kernel_rfl) (fun _ _ _ h => h) (Or.inl ⟨by rfl, ?_⟩) (by assumption) ?_
      rotate_left
      · intro wy hSw
        obtain ⟨hS0, hS1⟩ := hSw
        go_simp
        try with_reducible rfl
      try simp only [Act.put, List.getElem_toArray, List.getElem_cons_succ, List.getElem_cons_zero, List.setIfInBounds_toArray, List.set_cons_zero, List.set_cons_succ]
      refine wpAnyH_done (by kernel_rfl) ?_ _
      go_wp2
      have k0 := (unhide HN).cell (i := 0) rfl
      have k1 := (unhide HN).cell (i := 1) rfl
      refine bodyPost_ret (v := .tuple #[.agg #[.int .i64 H2, .slice ao m2 c2], .slice (some ⟨go, 0, none⟩) qo oc, .int .i64 xp]) (by simp [results, Try.results18, go_sem, k0, k1]) rfl (lAns_of _ _ _ _ _ _ _ _ _ _ (unhide HRF) (unhide HIF) (unhide HRL2).1 (unhide HRL2).2 (unhide HLL) (unhide HWF))
    · go_simp
      obtain ⟨ga, ega⟩ : ∃ z, z = wd.heap.size := ⟨_, rfl⟩
      obtain ⟨wa, ew⟩ : ∃ z, z = wd.alloc (.cells #[.int .i64 0, .int .i64 1, .int .i64 3, .int .i64 4, .int .i64 5, .int .i64 5, .int .i64 6, .int .i64 (-1), .int .i64 9, .int .i64 3, .int .i64 4, .int .i64 5] 3) := ⟨_, rfl⟩
      have hb : Below wd.heap.size wd wa := by rw [ew]; exact Below.alloc1 _ _
      have HXA : Hid (OwnV wa ga (ints [0, 1, 3, 4, 5, 5, 6, -1, 9, 3, 4, 5])) := by rw [ew, ega]; exact ownV_alloc wd #[.int .i64 0, .int .i64 1, .int .i64 3, .int .i64 4, .int .i64 5, .int .i64 5, .int .i64 6, .int .i64 (-1), .int .i64 9, .int .i64 3, .int .i64 4, .int .i64 5] 3
      have hga : gy < ga := by rw [ega]; exact (unhide HBX).lt
      rw [← ew, ← ega]
      replace HW := hide (Below.step (unhide HW) hb)
      replace HC := hide ((unhide HC).below hb)
      replace HR := hide ((unhide HR).step hb)
      replace HBX := hide ((unhide HBX).step hb)
      replace HKX := hide ((unhide HKX).trans (kept_of_below hb))
      clear hb ew ega
      refine hK.out _ _ ⟨(unhide HBX).cell (i := 0) rfl, (unhide HBX).cell (i := 1) rfl⟩ (fun hHeld => ?_)
      clear hK K
      try simp only [Act.put, List.setIfInBounds_toArray, List.set_cons_zero, List.set_cons_succ]
      refine wpAnyH_ready (rs := [3]) (by kernel_rfl) (by simp) ?_
      refine AllReadyH.cons rfl (fun K hK => ?_) AllReadyH.nil
      go_simp
      have hcy2 := (unhide HC).lt
      have hgy2 := (unhide HBX).lt
      have HCQ := hide (l18DrawOrder_any cb n v H2 _ _ _ R2 wa (unhide HC) hn (fun W' hk => unhide HRY _ W' ((unhide HKX).trans hk) (fun b hb e => by omega)) (unhide HRL2).1 (unhide HRL2).2)
      unfold yardV at HCQ
      refine (unhide HCQ).mono ?_
      rintro e wo ⟨go, qo, oc, L, rfl, hin, hLl, hC, hk⟩
      have HIN : Hid (∀ (P : Nat → Prop) W', Kept P wo W' → (∀ b, wa.heap.size ≤ b → ¬ P b) → IntsIn W' (.slice (some ⟨go, 0, none⟩) qo oc) L) := hin
      have HLL := hide hLl
      replace HW := hide ((unhide HW).trans (hk.below (unhide HW).size (fun b e => by omega)))
      replace HR := hide ((unhide HR).kept hk (fun e => by omega))
      replace HBX := hide ((unhide HBX).kept hk (fun e => by omega))
      replace HKX := hide ((unhide HKX).trans hk)
      replace HXA := hide ((unhide HXA).kept hk (fun e => by omega))
      replace HC := hide hC
      have HKO := hide (Kept.refl (fun b => b = cb) wo)
      clear hC hk HCQ hin hLl
      refine hK.out _ _ ⟨(unhide HBX).cell (i := 0) rfl, (unhide HBX).cell (i := 1) rfl⟩ (fun hHeld => ?_)
      clear hK K
      try simp only [Act.put, List.setIfInBounds_toArray, List.set_cons_zero, List.set_cons_succ]
      refine wpAnyH_ready (rs := [6]) (by kernel_rfl) (by simp) ?_
      refine AllReadyH.cons rfl (fun K hK => ?_) AllReadyH.nil
      go_simp
      have HCQ := hide (l1PickInt_any cb n v ga 12 [0, 1, 3, 4, 5, 5, 6, -1, 9, 3, 4, 5] wo (unhide HC) hn (unhide HXA) (by omega) rfl (by omega) (by omega))
      refine (unhide HCQ).mono ?_
      rintro e wp ⟨xp, rfl, hC, hk⟩
      replace HW := hide ((unhide HW).trans (hk.below (unhide HW).size (fun b e => by omega)))
      replace HR := hide ((unhide HR).kept hk (fun e => by omega))
      replace HBX := hide ((unhide HBX).kept hk (fun e => by omega))
      replace HKX := hide ((unhide HKX).trans hk)
      replace HKO := hide ((unhide HKO).trans hk)
      replace HC := hide hC
      clear hC hk HCQ HXA
      refine hK.out _ _ ⟨(unhide HBX).cell (i := 0) rfl, (unhide HBX).cell (i := 1) rfl⟩ (fun hHeld => ?_)
      clear hK K
      try simp only [Act.put, List.setIfInBounds_toArray, List.set_cons_zero, List.set_cons_succ]
      refine wpAnyH_ready (rs := [7]) (by kernel_rfl) (by simp) ?_
      refine AllReadyH.cons rfl (fun K hK => ?_) AllReadyH.nil
      have r0 := (unhide HR).cell (i := 0) rfl
      have r1 := (unhide HR).cell (i := 1) rfl
      have rf := (unhide HR).frozen
      have HN := hide (((unhide HR).set 0 (.int .i64 H2) (by simp)).set 1 (.slice ao m2 c2) (by simp))
      have hKS := ((Kept.refl (fun b => b = gr) wp).setCell (p := ⟨gr, 0, none⟩) rfl (.int .i64 H2)).setCell (p := ⟨gr, 1, none⟩) rfl (.slice ao m2 c2)
      have HRF := hide (unhide HRY (fun b => b = cb ∨ b = gr) _ (((unhide HKX).mono (fun b _ e => Or.inl e)).trans (hKS.mono (fun b _ e => Or.inr e))) (fun b hb e => by omega))
      have HIF := hide (unhide HIN (fun b => b = cb ∨ b = gr) _ (((unhide HKO).mono (fun b _ e => Or.inl e)).trans (hKS.mono (fun b _ e => Or.inr e))) (fun b hb e => by omega))
      have HWF := hide ((unhide HW).trans (hKS.below (unhide HW).size (fun b e => by omega)))
      have HBF := hide ((unhide HBX).kept hKS (fun e => by omega))
      clear hKS
      go_simp
      clear r0 r1 rf
      refine hK.out _ _ ⟨(unhide HBF).cell (i := 0) rfl, (unhide HBF).cell (i := 1) rfl⟩ (fun hHeld => ?_)
      clear hK K
      try simp only [Act.put, List.setIfInBounds_toArray, List.set_cons_zero, List.set_cons_succ]
      refine wpAnyH_take (i := 8) (v := ?_) rfl (by kernel_rfl) (by kernel_rfl) (by kernel_rfl) (fun _ _ _ h => h) (Or.inl ⟨by rfl, ?_⟩) (by assumption) ?_
      rotate_left
      · intro wy hSw
        obtain ⟨hS0, hS1⟩ := hSw
        go_simp
        try with_reducible rfl
      try simp only [Act.put, List.getElem_toArray, List.getElem_cons_succ, List.getElem_cons_zero, List.setIfInBounds_toArray, List.set_cons_zero, List.set_cons_succ]
      refine wpAnyH_take (i := 9) (v := ?_) rfl (by kernel_rfl) (by kernel_rfl) (by kernel_rfl) (fun _ _ _ h => h) (Or.inl ⟨by rfl, ?_⟩) (by assumption) ?_
      rotate_left
      · intro wy hSw
        obtain ⟨hS0, hS1⟩ := hSw
        go_simp
        try with_reducible rfl
      try simp only [Act.put, List.getElem_toArray, List.getElem_cons_succ, List.getElem_cons_zero, List.setIfInBounds_toArray, List.set_cons_zero, List.set_cons_succ]
      refine wpAnyH_done (by kernel_rfl) ?_ _
      go_wp2
      have k0 := (unhide HN).cell (i := 0) rfl
      have k1 := (unhide HN).cell (i := 1) rfl
      refine bodyPost_ret (v := .tuple #[.agg #[.int .i64 H2, .slice ao m2 c2], .slice (some ⟨go, 0, none⟩) qo oc, .int .i64 xp]) (by simp [results, Try.results18, go_sem, k0, k1]) rfl (lAns_of _ _ _ _ _ _ _ _ _ _ (unhide HRF) (unhide HIF) (unhide HRL2).1 (unhide HRL2).2 (unhide HLL) (unhide HWF))
  | false =>
    go_upto_region 5 with (fail)
    have HRY := HRR
    clear HRR
    obtain ⟨wd, ewd⟩ : ∃ z, z = w6.drew := ⟨_, rfl⟩
    have hb : Below w6.heap.size w6 wd := by rw [ewd]; exact (Below.refl _ _).drew
    replace HW := hide (Below.step (unhide HW) hb)
    replace HC := hide ((unhide HC).below hb)
    replace HR := hide ((unhide HR).step hb)
    replace HBX := hide ((unhide HBX).step hb)
    replace HKX := hide ((unhide HKX).trans (kept_of_below hb))
    clear hb
    refine wp_region_held_drew (S := fun w' => w'.cell? ⟨gy, 0, none⟩ = some (.int .i64 H) ∧ w'.cell? ⟨gy, 1, none⟩ = some (.slice (some ⟨g, 0, none⟩) k k)) (by kernel_rfl) ⟨by rw [← ewd]; exact (unhide HBX).cell (i := 0) rfl, by rw [← ewd]; exact (unhide HBX).cell (i := 1) rfl⟩ (fun hHeld => ?_)
    rw [← ewd] at hHeld ⊢
    clear ewd
    refine wpAnyH_take (i := 0) (v := ?_) rfl (by kernel_rfl) (by kernel_rfl) (by kernel_rfl) (fun _ _ _ h => h) (Or.inl ⟨by rfl, ?_⟩) (by assumption) ?_
    rotate_left
    · intro wy hSw
      obtain ⟨hS0, hS1⟩ := hSw
      go_simp
      try with_reducible rfl
    try simp only [Act.put, List.getElem_toArray, List.getElem_cons_zero, List.setIfInBounds_toArray, List.set_cons_zero, List.set_cons_succ]
    refine wpAnyH_take (i := 1) (v := ?_) rfl (by kernel_rfl) (by kernel_rfl) (by kernel_rfl) (fun _ _ _ h => h) (Or.inl ⟨by rfl, ?_⟩) (by assumption) ?_
    rotate_left
    · intro wy hSw
      obtain ⟨hS0, hS1⟩ := hSw
      go_simp
      try with_reducible rfl
    try simp only [Act.put, List.getElem_toArray, List.getElem_cons_succ, List.getElem_cons_zero, List.setIfInBounds_toArray, List.set_cons_zero, List.set_cons_succ]
    refine wpAnyH_take (i := 2) (v := ?_) rfl (by kernel_rfl) (by kernel_rfl) (by kernel_rfl) (fun _ _ _ h => h) (Or.inl ⟨by rfl, ?_⟩) (by assumption) ?_
    rotate_left
    · intro wy hSw
      obtain ⟨hS0, hS1⟩ := hSw
      go_simp
      try with_reducible rfl
    try simp only [Act.put, List.getElem_toArray, List.getElem_cons_succ, List.getElem_cons_zero, List.setIfInBounds_toArray, List.set_cons_zero, List.set_cons_succ]
    refine wpAnyH_take (i := 4) (v := ?_) rfl (by kernel_rfl) (by kernel_rfl) (by kernel_rfl) (fun _ _ _ h => h) (Or.inl ⟨by rfl, ?_⟩) (by assumption) ?_
    rotate_left
    · intro wy hSw
      obtain ⟨hS0, hS1⟩ := hSw
      go_simp
      try with_reducible rfl
    try simp only [Act.put, List.getElem_toArray, List.getElem_cons_succ, List.getElem_cons_zero, List.setIfInBounds_toArray, List.set_cons_zero, List.set_cons_succ]
    refine wpAnyH_ready (rs := [3, 5]) (by kernel_rfl) (by simp) ?_
    refine AllReadyH.cons rfl (fun K hK => ?_) (AllReadyH.cons rfl (fun K hK => ?_) AllReadyH.nil)
    · go_simp
      have hcy2 := (unhide HC).lt
      have hgy2 := (unhide HBX).lt
      have HCQ := hide (l18DrawOrder_any cb n v H _ _ _ R wd (unhide HC) hn (fun W' hk => unhide HRY _ W' ((unhide HKX).trans hk) (fun b hb e => by omega)) (unhide HRL).1 (unhide HRL).2)
      unfold yardV at HCQ
      refine (unhide HCQ).mono ?_
      rintro e wo ⟨go, qo, oc, L, rfl, hin, hLl, hC, hk⟩
      have HIN : Hid (∀ (P : Nat → Prop) W', Kept P wo W' → (∀ b, wd.heap.size ≤ b → ¬ P b) → IntsIn W' (.slice (some ⟨go, 0, none⟩) qo oc) L) := hin
      have HLL := hide hLl
      replace HW := hide ((unhide HW).trans (hk.below (unhide HW).size (fun b e => by omega)))
      replace HR := hide ((unhide HR).kept hk (fun e => by omega))
      replace HBX := hide ((unhide HBX).kept hk (fun e => by omega))
      replace HKX := hide ((unhide HKX).trans hk)
      replace HC := hide hC
      have HKO := hide (Kept.refl (fun b => b = cb) wo)
      clear hC hk HCQ hin hLl
      refine hK.out _ _ ⟨(unhide HBX).cell (i := 0) rfl, (unhide HBX).cell (i := 1) rfl⟩ (fun hHeld => ?_)
      clear hK K
      try simp only [Act.put, List.setIfInBounds_toArray, List.set_cons_zero, List.set_cons_succ]
      refine wpAnyH_ready (rs := [5]) (by kernel_rfl) (by simp) ?_
      refine AllReadyH.cons rfl (fun K hK => ?_) AllReadyH.nil
      go_simp
      obtain ⟨ga, ega⟩ : ∃ z, z = wo.heap.size := ⟨_, rfl⟩
      obtain ⟨wa, ew⟩ : ∃ z, z = wo.alloc (.cells #[.int .i64 0, .int .i64 1, .int .i64 3, .int .i64 4, .int .i64 5, .int .i64 5, .int .i64 6, .int .i64 (-1), .int .i64 9, .int .i64 3, .int .i64 4, .int .i64 5] 3) := ⟨_, rfl⟩
      have hb : Below wo.heap.size wo wa := by rw [ew]; exact Below.alloc1 _ _
      have HXA : Hid (OwnV wa ga (ints [0, 1, 3, 4, 5, 5, 6, -1, 9, 3, 4, 5])) := by rw [ew, ega]; exact ownV_alloc wo #[.int .i64 0, .int .i64 1, .int .i64 3, .int .i64 4, .int .i64 5, .int .i64 5, .int .i64 6, .int .i64 (-1), .int .i64 9, .int .i64 3, .int .i64 4, .int .i64 5] 3
      have hga : gy < ga := by rw [ega]; exact (unhide HBX).lt
      rw [← ew, ← ega]
      replace HW := hide (Below.step (unhide HW) hb)
      replace HC := hide ((unhide HC).below hb)
      replace HR := hide ((unhide HR).step hb)
      replace HBX := hide ((unhide HBX).step hb)
      replace HKX := hide ((unhide HKX).trans (kept_of_below hb))
      replace HKO := hide ((unhide HKO).trans (kept_of_below hb))
      clear hb ew ega
      refine hK.out _ _ ⟨(unhide HBX).cell (i := 0) rfl, (unhide HBX).cell (i := 1) rfl⟩ (fun hHeld => ?_)
      clear hK K
      try simp only [Act.put, List.setIfInBounds_toArray, List.set_cons_zero, List.set_cons_succ]
      refine wpAnyH_ready (rs := [6]) (by kernel_rfl) (by simp) ?_
      refine AllReadyH.cons rfl (fun K hK => ?_) AllReadyH.nil
      go_simp
      have HCQ := hide (l1PickInt_any cb n v ga 12 [0, 1, 3, 4, 5, 5, 6, -1, 9, 3, 4, 5] wa (unhide HC) hn (unhide HXA) (by omega) rfl (by omega) (by omega))
      refine (unhide HCQ).mono ?_
      rintro e wp ⟨xp, rfl, hC, hk⟩
      replace HW := hide ((unhide HW).trans (hk.below (unhide HW).size (fun b e => by omega)))
      replace HR := hide ((unhide HR).kept hk (fun e => by omega))
      replace HBX := hide ((unhide HBX).kept hk (fun e => by omega))
      replace HKX := hide ((unhide HKX).trans hk)
      replace HKO := hide ((unhide HKO).trans hk)
      replace HC := hide hC
      clear hC hk HCQ HXA
      refine hK.out _ _ ⟨(unhide HBX).cell (i := 0) rfl, (unhide HBX).cell (i := 1) rfl⟩ (fun hHeld => ?_)
      clear hK K
      try simp only [Act.put, List.setIfInBounds_toArray, List.set_cons_zero, List.set_cons_succ]
      refine wpAnyH_ready (rs := [7]) (by kernel_rfl) (by simp) ?_
      refine AllReadyH.cons rfl (fun K hK => ?_) AllReadyH.nil
      have r0 := (unhide HR).cell (i := 0) rfl
      have r1 := (unhide HR).cell (i := 1) rfl
      have rf := (unhide HR).frozen
      have HN := hide (((unhide HR).set 0 (.int .i64 H) (by simp)).set 1 (.slice (some ⟨g, 0, none⟩) k k) (by simp))
      have hKS := ((Kept.refl (fun b => b = gr) wp).setCell (p := ⟨gr, 0, none⟩) rfl (.int .i64 H)).setCell (p := ⟨gr, 1, none⟩) rfl (.slice (some ⟨g, 0, none⟩) k k)
      have HRF := hide (unhide HRY (fun b => b = cb ∨ b = gr) _ (((unhide HKX).mono (fun b _ e => Or.inl e)).trans (hKS.mono (fun b _ e => Or.inr e))) (fun b hb e => by omega))
      have HIF := hide (unhide HIN (fun b => b = cb ∨ b = gr) _ (((unhide HKO).mono (fun b _ e => Or.inl e)).trans (hKS.mono (fun b _ e => Or.inr e))) (fun b hb e => by omega))
      have HWF := hide ((unhide HW).trans (hKS.below (unhide HW).size (fun b e => by omega)))
      have HBF := hide ((unhide HBX).kept hKS (fun e => by omega))
      clear hKS
      go_simp
      clear r0 r1 rf
      refine hK.out _ _ ⟨(unhide HBF).cell (i := 0) rfl, (unhide HBF).cell (i := 1) rfl⟩ (fun hHeld => ?_)
      clear hK K
      try simp only [Act.put, List.setIfInBounds_toArray, List.set_cons_zero, List.set_cons_succ]
      refine wpAnyH_take (i := 8) (v := ?_) rfl (by kernel_rfl) (by kernel_rfl) (by kernel_rfl) (fun _ _ _ h => h) (Or.inl ⟨by rfl, ?_⟩) (by assumption) ?_
      rotate_left
      · intro wy hSw
        obtain ⟨hS0, hS1⟩ := hSw
        go_simp
        try with_reducible rfl
      try simp only [Act.put, List.getElem_toArray, List.getElem_cons_succ, List.getElem_cons_zero, List.setIfInBounds_toArray, List.set_cons_zero, List.set_cons_succ]
      refine wpAnyH_take (i := 9) (v := ?_) rfl (by kernel_rfl) (by kernel_rfl) (by kernel_rfl) (fun _ _ _ h => h) (Or.inl ⟨by rfl, ?_⟩) (by assumption) ?_
      rotate_left
      · intro wy hSw
        obtain ⟨hS0, hS1⟩ := hSw
        go_simp
        try with_reducible rfl
      try simp only [Act.put, List.getElem_toArray, List.getElem_cons_succ, List.getElem_cons_zero, List.setIfInBounds_toArray, List.set_cons_zero, List.set_cons_succ]
      refine wpAnyH_done (by kernel_rfl) ?_ _
      go_wp2
      have k0 := (unhide HN).cell (i := 0) rfl
      have k1 := (unhide HN).cell (i := 1) rfl
      refine bodyPost_ret (v := .tuple #[.agg #[.int .i64 H, .slice (some ⟨g, 0, none⟩) k k], .slice (some ⟨go, 0, none⟩) qo oc, .int .i64 xp]) (by simp [results, Try.results18, go_sem, k0, k1]) rfl (lAns_of _ _ _ _ _ _ _ _ _ _ (unhide HRF) (unhide HIF) (unhide HRL).1 (unhide HRL).2 (unhide HLL) (unhide HWF))
    · go_simp
      obtain ⟨ga, ega⟩ : ∃ z, z = wd.heap.size := ⟨_, rfl⟩
      obtain ⟨wa, ew⟩ : ∃ z, z = wd.alloc (.cells #[.int .i64 0, .int .i64 1, .int .i64 3, .int .i64 4, .int .i64 5, .int .i64 5, .int .i64 6, .int .i64 (-1), .int .i64 9, .int .i64 3, .int .i64 4, .int .i64 5] 3) := ⟨_, rfl⟩
      have hb : Below wd.heap.size wd wa := by rw [ew]; exact Below.alloc1 _ _
      have HXA : Hid (OwnV wa ga (ints [0, 1, 3, 4, 5, 5, 6, -1, 9, 3, 4, 5])) := by rw [ew, ega]; exact ownV_alloc wd #[.int .i64 0, .int .i64 1, .int .i64 3, .int .i64 4, .int .i64 5, .int .i64 5, .int .i64 6, .int .i64 (-1), .int .i64 9, .int .i64 3, .int .i64 4, .int .i64 5] 3
      have hga : gy < ga := by rw [ega]; exact (unhide HBX).lt
      rw [← ew, ← ega]
      replace HW := hide (Below.step (unhide HW) hb)
      replace HC := hide ((unhide HC).below hb)
      replace HR := hide ((unhide HR).step hb)
      replace HBX := hide ((unhide HBX).step hb)
      replace HKX := hide ((unhide HKX).trans (kept_of_below hb))
      clear hb ew ega
      refine hK.out _ _ ⟨(unhide HBX).cell (i := 0) rfl, (unhide HBX).cell (i := 1) rfl⟩ (fun hHeld => ?_)
      clear hK K
      try simp only [Act.put, List.setIfInBounds_toArray, List.set_cons_zero, List.set_cons_succ]
      refine wpAnyH_ready (rs := [3]) (by kernel_rfl) (by simp) ?_
      refine AllReadyH.cons rfl (fun K hK => ?_) AllReadyH.nil
      go_simp
      have hcy2 := (unhide HC).lt
      have hgy2 := (unhide HBX).lt
      have HCQ := hide (l18DrawOrder_any cb n v H _ _ _ R wa (unhide HC) hn (fun W' hk => unhide HRY _ W' ((unhide HKX).trans hk) (fun b hb e => by omega)) (unhide HRL).1 (unhide HRL).2)
      unfold yardV at HCQ
      refine (unhide HCQ).mono ?_
      rintro e wo ⟨go, qo, oc, L, rfl, hin, hLl, hC, hk⟩
      have HIN : Hid (∀ (P : Nat → Prop) W', Kept P wo W' → (∀ b, wa.heap.size ≤ b → ¬ P b) → IntsIn W' (.slice (some ⟨go, 0, none⟩) qo oc) L) := hin
      have HLL := hide hLl
      replace HW := hide ((unhide HW).trans (hk.below (unhide HW).size (fun b e => by omega)))
      replace HR := hide ((unhide HR).kept hk (fun e => by omega))
      replace HBX := hide ((unhide HBX).kept hk (fun e => by omega))
      replace HKX := hide ((unhide HKX).trans hk)
      replace HXA := hide ((unhide HXA).kept hk (fun e => by omega))
      replace HC := hide hC
      have HKO := hide (Kept.refl (fun b => b = cb) wo)
      clear hC hk HCQ hin hLl
      refine hK.out _ _ ⟨(unhide HBX).cell (i := 0) rfl, (unhide HBX).cell (i := 1) rfl⟩ (fun hHeld => ?_)
      clear hK K
      try simp only [Act.put, List.setIfInBounds_toArray, List.set_cons_zero, List.set_cons_succ]
      refine wpAnyH_ready (rs := [6]) (by kernel_rfl) (by simp) ?_
      refine AllReadyH.cons rfl (fun K hK => ?_) AllReadyH.nil
      go_simp
      have HCQ := hide (l1PickInt_any cb n v ga 12 [0, 1, 3, 4, 5, 5, 6, -1, 9, 3, 4, 5] wo (unhide HC) hn (unhide HXA) (by omega) rfl (by omega) (by omega))
      refine (unhide HCQ).mono ?_
      rintro e wp ⟨xp, rfl, hC, hk⟩
      replace HW := hide ((unhide HW).trans (hk.below (unhide HW).size (fun b e => by omega)))
      replace HR := hide ((unhide HR).kept hk (fun e => by omega))
      replace HBX := hide ((unhide HBX).kept hk (fun e => by omega))
      replace HKX := hide ((unhide HKX).trans hk)
      replace HKO := hide ((unhide HKO).trans hk)
      replace HC := hide hC
      clear hC hk HCQ HXA
      refine hK.out _ _ ⟨(unhide HBX).cell (i := 0) rfl, (unhide HBX).cell (i := 1) rfl⟩ (fun hHeld => ?_)
      clear hK K
      try simp only [Act.put, List.setIfInBounds_toArray, List.set_cons_zero, List.set_cons_succ]
      refine wpAnyH_ready (rs := [7]) (by kernel_rfl) (by simp) ?_
      refine AllReadyH.cons rfl (fun K hK => ?_) AllReadyH.nil
      have r0 := (unhide HR).cell (i := 0) rfl
      have r1 := (unhide HR).cell (i := 1) rfl
      have rf := (unhide HR).frozen
      have HN := hide (((unhide HR).set 0 (.int .i64 H) (by simp)).set 1 (.slice (some ⟨g, 0, none⟩) k k) (by simp))
      have hKS := ((Kept.refl (fun b => b = gr) wp).setCell (p := ⟨gr, 0, none⟩) rfl (.int .i64 H)).setCell (p := ⟨gr, 1, none⟩) rfl (.slice (some ⟨g, 0, none⟩) k k)
      have HRF := hide (unhide HRY (fun b => b = cb ∨ b = gr) _ (((unhide HKX).mono (fun b _ e => Or.inl e)).trans (hKS.mono (fun b _ e => Or.inr e))) (fun b hb e => by omega))
      have HIF := hide (unhide HIN (fun b => b = cb ∨ b = gr) _ (((unhide HKO).mono (fun b _ e => Or.inl e)).trans (hKS.mono (fun b _ e => Or.inr e))) (fun b hb e => by omega))
      have HWF := hide ((unhide HW).trans (hKS.below (unhide HW).size (fun b e => by omega)))
      have HBF := hide ((unhide HBX).kept hKS (fun e => by omega))
      clear hKS
      go_simp
      clear r0 r1 rf
      refine hK.out _ _ ⟨(unhide HBF).cell (i := 0) rfl, (unhide HBF).cell (i := 1) rfl⟩ (fun hHeld => ?_)
      clear hK K
      try simp only [Act.put, List.setIfInBounds_toArray, List.set_cons_zero, List.set_cons_succ]
      refine wpAnyH_take (i := 8) (v := ?_) rfl (by kernel_rfl) (by kernel_rfl) (by kernel_rfl) (fun _ _ _ h => h) (Or.inl ⟨by rfl, ?_⟩) (by assumption) ?_
      rotate_left
      · intro wy hSw
        obtain ⟨hS0, hS1⟩ := hSw
        go_simp
        try with_reducible rfl
      try simp only [Act.put, List.getElem_toArray, List.getElem_cons_succ, List.getElem_cons_zero, List.setIfInBounds_toArray, List.set_cons_zero, List.set_cons_succ]
      refine wpAnyH_take (i := 9) (v := ?_) rfl (by kernel_rfl) (by kernel_rfl) (by kernel_rfl) (fun _ _ _ h => h) (Or.inl ⟨by rfl, ?_⟩) (by assumption) ?_
      rotate_left
      · intro wy hSw
        obtain ⟨hS0, hS1⟩ := hSw
        go_simp
        try with_reducible rfl
      try simp only [Act.put, List.getElem_toArray, List.getElem_cons_succ, List.getElem_cons_zero, List.setIfInBounds_toArray, List.set_cons_zero, List.set_cons_succ]
      refine wpAnyH_done (by kernel_rfl) ?_ _
      go_wp2
      have k0 := (unhide HN).cell (i := 0) rfl
      have k1 := (unhide HN).cell (i := 1) rfl
      refine bodyPost_ret (v := .tuple #[.agg #[.int .i64 H, .slice (some ⟨g, 0, none⟩) k k], .slice (some ⟨go, 0, none⟩) qo oc, .int .i64 xp]) (by simp [results, Try.results18, go_sem, k0, k1]) rfl (lAns_of _ _ _ _ _ _ _ _ _ _ (unhide HRF) (unhide HIF) (unhide HRL).1 (unhide HRL).2 (unhide HLL) (unhide HWF))

end Go.Proofs.Ytdiifkeebgdfkaa

namespace Go.Proofs.Ytdiifkeebgdfkaa
open Go.RowKit

theorem fix_least : leastV 2 [[1, 2], []] [1, 2] 3 = (1, true) := by
  refine least_some (n := 1) ⟨⟨by omega, by omega, by simp, by simp, fun s hs => ?_, fun s hs t ht => ?_, by decide⟩, by simp, by simp, by simp, by decide, by decide, by omega, by omega⟩ (by omega) (by decide +kernel) (fun j hj => ?_)
  · have : s = 0 ∨ s = 1 := by simp at hs; omega
    rcases this with rfl | rfl <;> simp
  · have : s = 0 ∨ s = 1 := by simp at hs; omega
    rcases this with rfl | rfl
    · have : t = 0 ∨ t = 1 := by simp at ht; omega
      rcases this with rfl | rfl <;> simp
    · simp at ht
  · have : j = 0 := by omega
    subst this
    decide +kernel
theorem fix_rows (w : World) : ∀ X, X = ((((w.alloc (.cells #[.int .i64 1, .int .i64 2] 3)).alloc (.cells #[] 3)).alloc (.cells #[.slice (some ⟨w.heap.size, 0, none⟩) 2 2, .slice (some ⟨w.heap.size + 1, 0, none⟩) 0 0] 30)).alloc (.cells #[.int .i64 1, .int .i64 2] 3)) →
    RowsIn X (.slice (some ⟨w.heap.size + 1 + 1, 0, none⟩) 2 2) [[1, 2], []] ∧ IntsIn X (.slice (some ⟨w.heap.size + 1 + 1 + 1, 0, none⟩) 2 2) [1, 2] ∧ Below w.heap.size w X := by
  intro X eX
  have O1 := (((ownV_alloc w #[.int .i64 1, .int .i64 2] 3).alloc (.cells #[] 3)).alloc (.cells #[.slice (some ⟨w.heap.size, 0, none⟩) 2 2, .slice (some ⟨w.heap.size + 1, 0, none⟩) 0 0] 30)).alloc (.cells #[.int .i64 1, .int .i64 2] 3)
  have O3 := (ownV_alloc ((w.alloc (.cells #[.int .i64 1, .int .i64 2] 3)).alloc (.cells #[] 3)) #[.slice (some ⟨w.heap.size, 0, none⟩) 2 2, .slice (some ⟨w.heap.size + 1, 0, none⟩) 0 0] 30).alloc (.cells #[.int .i64 1, .int .i64 2] 3)
  have O4 := ownV_alloc (((w.alloc (.cells #[.int .i64 1, .int .i64 2] 3)).alloc (.cells #[] 3)).alloc (.cells #[.slice (some ⟨w.heap.size, 0, none⟩) 2 2, .slice (some ⟨w.heap.size + 1, 0, none⟩) 0 0] 30)) #[.int .i64 1, .int .i64 2] 3
  have HB : Below w.heap.size w X := by
    rw [eX]
    exact Below.step (Below.step (Below.step (Below.alloc1 _ _) (Below.alloc1 _ _)) (Below.alloc1 _ _)) (Below.alloc1 _ _)
  rw [← eX] at O1 O3 O4
  simp only [World.size_alloc] at O3 O4
  have i1 : IntsIn X (.slice (some ⟨w.heap.size, 0, none⟩) 2 2) [1, 2] := OwnV.intsIn (xs := [1, 2]) O1 (Nat.le_refl _) (by unfold maxLen; simp)
  refine ⟨⟨_, 2, rfl, by simp, by unfold maxLen; omega, fun r hr => ?_⟩, OwnV.intsIn (xs := [1, 2]) O4 (Nat.le_refl _) (by unfold maxLen; simp), HB⟩
  have : r = 0 ∨ r = 1 := by simp at hr; omega
  rcases this with rfl | rfl
  · exact ⟨w.heap.size + 1 + 1, 0, _, rfl, O3.cell (i := 0) rfl, i1⟩
  · exact ⟨w.heap.size + 1 + 1, 0, _, rfl, O3.cell (i := 1) rfl, ⟨_, 0, rfl, Nat.le_refl _, Nat.zero_le _, fun i hi => by simp at hi⟩⟩

set_option maxRecDepth 10000 in
set_option maxHeartbeats 25600000 in
theorem fnLeast_any (v : Value) (nb : Nat) (w : World) (h : BytesIn w.heap.size w v nb) :
    Calls Try.prog 4 #[v] w fun e w' => e = .returned (.bool true) ∧ Below w.heap.size w w' := by
  have HB := hide h
  obtain ⟨vao, vcap, rfl, hl, hm, _⟩ := h
  unfold maxLen at hm
  have HBIG := hide (big_any vao nb vcap w)
  cases hbig : decide ((1048576 : Int) < (nb : Int)) with
  | true =>
    rw [hbig] at HBIG
    go_enter Try.func4, Try.ntmps4
    go_wp2_with fail
    refine (unhide HBIG).mono ?_
    rintro e w' ⟨rfl, rfl⟩
    go_wp2
    go_ret
    exact ⟨rfl, Below.refl _ _⟩
  | false =>
  rw [hbig] at HBIG
  have hnb : nb ≤ 1048576 := by rw [decide_eq_false_iff_not] at hbig; omega
  have QD := hide (DrawLeastShuffles_any _ nb w (unhide HB) hnb)
  clear hbig HB hl hm
  go_enter Try.func4, Try.ntmps4
  go_wp2_with fail
  refine (unhide HBIG).mono ?_
  rintro e w' ⟨rfl, rfl⟩
  clear HBIG
  go_wp2_with fail
  refine (unhide QD).mono ?_
  intro e w1 hans
  obtain ⟨H, ao, m, c, R, g, q, oc, L, x, rfl, hrr, hin, -, -, -, hb1⟩ := hans
  have HW := hide hb1
  have HRR := hide hrr
  have HIN := hide hin
  have hA := Below.alloc1 w1 (.cells #[.int .i64 H, .slice ao m c] 26)
  have HBX := hide (ownV_alloc w1 #[.int .i64 H, .slice ao m c] 26)
  replace HW := hide (Below.step (unhide HW) hA)
  replace HRR := hide ((unhide HRR).below hA)
  replace HIN := hide ((unhide HIN).below hA)
  clear hrr hin hb1 QD hA
  unfold yardV
  go_upto_region 4 with (fail)
  obtain ⟨gy, egy⟩ : ∃ z, z = w1.heap.size := ⟨_, rfl⟩
  obtain ⟨w2, ew2⟩ : ∃ z, z = w1.alloc (.cells #[.int .i64 H, .slice ao m c] 26) := ⟨_, rfl⟩
  rw [← ew2] at HW HRR HIN HBX ⊢
  rw [← egy] at HBX ⊢
  clear egy ew2
  have HLI := hide fun k V hv ho => implLeastShuffles_any H (.slice ao m c) R (.slice (some ⟨g, 0, none⟩) q oc) L k V hv ho
  have HLS := hide fun V hv ho => specLeastShuffles_any H (.slice ao m c) R (.slice (some ⟨g, 0, none⟩) q oc) L 4 V hv ho
  have HBL := hide fun V hv ho => implBlocking_any H (.slice ao m c) R (.slice (some ⟨g, 0, none⟩) q oc) L V hv ho
  have HLI4 := hide (unhide HLI 4)
  unfold yardV at HLI HLI4 HLS HBL
  obtain ⟨⟨z, ok⟩, ez⟩ : ∃ z, z = leastV H R L 4 := ⟨_, rfl⟩
  rw [← ez] at HLI4 HLS
  have HEZ := hide ez
  clear ez
  dsimp only at HLI4 HLS
  have hoo : (ok != ok) = false := by simp
  have y0 := (unhide HBX).cell (i := 0) rfl
  have y1 := (unhide HBX).cell (i := 1) rfl
  go_wp2_with fail
  refine (unhide HLI4 _ (unhide HRR) (unhide HIN)).mono ?_
  rintro e w3 ⟨rfl, hb⟩
  replace HW := hide (Below.step (unhide HW) hb)
  replace HRR := hide ((unhide HRR).below hb)
  replace HIN := hide ((unhide HIN).below hb)
  replace HBX := hide ((unhide HBX).step hb)
  clear hb y0 y1
  have y0 := (unhide HBX).cell (i := 0) rfl
  have y1 := (unhide HBX).cell (i := 1) rfl
  go_wp2_with fail
  refine (unhide HLS _ (unhide HRR) (unhide HIN)).mono ?_
  rintro e w4 ⟨rfl, hb⟩
  replace HW := hide (Below.step (unhide HW) hb)
  replace HRR := hide ((unhide HRR).below hb)
  replace HIN := hide ((unhide HIN).below hb)
  replace HBX := hide ((unhide HBX).step hb)
  clear hb y0 y1
  have HFR := hide (fix_rows w4 _ rfl)
  have HFL := hide fun V v1 v2 h1 h2 => implLeastShuffles_any 2 v1 [[1, 2], []] v2 [1, 2] 3 V h1 h2
  rw [fix_least] at HFL
  unfold yardV at HFL
  go_wp2_with fail
  refine (unhide HFL _ _ _ (unhide HFR).1 (unhide HFR).2.1).mono ?_
  rintro e w5 ⟨rfl, hb0⟩
  have hb : Below w4.heap.size w4 w5 := Below.step (unhide HFR).2.2 hb0
  replace HW := hide (Below.step (unhide HW) hb)
  replace HRR := hide ((unhide HRR).below hb)
  replace HIN := hide ((unhide HIN).below hb)
  replace HBX := hide ((unhide HBX).step hb)
  clear hb
  clear hb0 HFR HFL
  cases ok with
  | false =>
    have hz : z = -1 := by have := least_not (H := H) (R := R) (O := L) (m := 4) (by rw [← unhide HEZ]); rw [← unhide HEZ] at this; exact this
    subst hz
    clear HLI HBL HLI4 HLS HEZ
    go_wp2
    go_ret
    exact ⟨rfl, unhide HW⟩
  | true =>
    obtain ⟨hS, n, hzn, hn4, hcn, hmin⟩ := least_got (unhide HEZ).symm
    subst hzn
    have hbk : blkV H R L = (((blkP (pilesOf L R) : Nat) : Int), true) := by rw [blkV, if_pos ⟨hS.ok, by have := hS.ol; omega, hS.nod⟩]
    rw [hbk] at HBL
    dsimp only at HBL
    have hlow : blkP (pilesOf L R) ≤ n := by
      rcases Nat.lt_or_ge n (blkP (pilesOf L R)) with h | h
      · have := can_low (H := H) hS.st h
        rw [hcn] at this
        cases this
      · exact h
    have hzero : blkP (pilesOf L R) = 0 → n = 0 := fun h0 => by
      rcases Nat.eq_zero_or_pos n with h | h
      · exact h
      · have h1 := hmin 0 h
        obtain ⟨e1, _, e3⟩ := free_eq (n := L.length - 0) hS.st (by omega)
        rw [can_zero (by rw [e1, e3]; exact h0)] at h1
        cases h1
    have HMIN := hide hmin
    obtain ⟨bk, ebk⟩ : ∃ z, z = blkP (pilesOf L R) := ⟨_, rfl⟩
    rw [← ebk] at HBL hlow hzero
    clear hbk ebk hcn hmin hS HEZ HLI4 HLS
    have d1 : decide ((n : Int) < (bk : Int)) = false := by rw [decide_eq_false_iff_not]; omega
    have d2 : decide ((n : Int) < (n : Int)) = false := by simp
    have y0 := (unhide HBX).cell (i := 0) rfl
    have y1 := (unhide HBX).cell (i := 1) rfl
    go_wp2_with fail
    refine (unhide HBL _ (unhide HRR) (unhide HIN)).mono ?_
    rintro e w6 ⟨rfl, hb⟩
    replace HW := hide (Below.step (unhide HW) hb)
    replace HRR := hide ((unhide HRR).below hb)
    replace HIN := hide ((unhide HIN).below hb)
    replace HBX := hide ((unhide HBX).step hb)
    clear hb y0 y1
    by_cases hn0 : n = 0
    · subst hn0
      have hbk0 : bk = 0 := by omega
      subst hbk0
      clear HLI HBL hlow hzero d1 d2
      go_wp2
      go_ret
      exact ⟨rfl, unhide HW⟩
    have hbk0 : ¬ bk = 0 := fun e => hn0 (hzero e)
    have d3 : ((bk : Int) == 0) = false := by simp; exact hbk0
    have d3n : (bk == 0) = false := by simp; exact hbk0
    have d4 : ((n : Int) == 0) = false := by simp; exact hn0
    have d4n : (n == 0) = false := by simp; exact hn0
    have hln : leastV H R L ((n : Int) - 1) = (-1, false) := least_none fun j hj => unhide HMIN j (by omega)
    have HL2 := hide (unhide HLI ((n : Int) - 1))
    rw [hln] at HL2
    dsimp only at HL2
    have hw1 : IntKind.i64.wrap ((n : Int) - 1) = (n : Int) - 1 := by rw [IntKind.wrap_i64]; omega
    have y0 := (unhide HBX).cell (i := 0) rfl
    have y1 := (unhide HBX).cell (i := 1) rfl
    clear hln HLI HBL hzero hbk0 hn0
    go_wp2_with fail
    refine (unhide HL2 _ (unhide HRR) (unhide HIN)).mono ?_
    rintro e w7 ⟨rfl, hb⟩
    replace HW := hide (Below.step (unhide HW) hb)
    clear hb y0 y1 HL2
    go_wp2
    go_ret
    exact ⟨rfl, unhide HW⟩

end Go.Proofs.Ytdiifkeebgdfkaa
