/- The specification's l18Copy and l18Shift. -/
import Derived.Test.YtjllilmiloippaaYaS
import Derived.Deep.DeepCutAuto
namespace Go.Proofs.Ytjllilmiloippaa
open Go.RowKit

theorem recs_one (w : World) (x : Nat × Nat × Nat) (T : TypeId) : RecsIn 1 eR (w.alloc (.cells #[.slice (some ⟨x.1, 0, none⟩) x.2.1 x.2.2] T)) (.slice (some ⟨w.heap.size, 0, none⟩) 1 1) [x] := by
  have h := ownV_alloc w #[.slice (some ⟨x.1, 0, none⟩) x.2.1 x.2.2] T
  refine OwnV.recsIn (L := [x]) ?_ (Nat.le_refl _) (by unfold maxLen; omega)
  rw [recCells_one]
  exact h

/-- A copy under way: the box q of the result, the rows' slices E, the rows. -/
structure Cpy (w0 wr : World) (g q : Nat) (H : Int) (v : Value) (sa : Option Addr) (k sc : Nat) (E : List (Nat × Nat × Nat)) (R : List (List Int)) : Prop where
  below : Below w0.heap.size w0 wr
  arg : OwnV wr g [.int .i64 H, v]
  res : OwnV wr (g + 1) [.int .i64 0, .slice none 0 0]
  box : OwnV wr q [.int .i64 H, .slice sa k sc]
  tops : RowB 30 1 eR (q + 1) wr sa k sc E
  row : ∀ r, r < k → RowB 3 1 eI 0 wr (some ⟨(E.getD r default).1, 0, none⟩) (E.getD r default).2.1 (E.getD r default).2.2 (R.getD r [])
  own : ∀ r, r < k → q < (E.getD r default).1 ∧ sa ≠ some ⟨(E.getD r default).1, 0, none⟩
  apart : ∀ r s, r < k → s < k → r ≠ s → (E.getD r default).1 ≠ (E.getD s default).1

theorem Cpy.len {w0 wr : World} {g q : Nat} {H : Int} {v : Value} {sa : Option Addr} {k sc : Nat} {E : List (Nat × Nat × Nat)} {R : List (List Int)} (h : Cpy w0 wr g q H v sa k sc E R) : E.length = k := h.tops.len (by omega)

/-- One row more. -/
theorem Cpy.next {w0 wr w1 w2 : World} {g q : Nat} {H : Int} {v : Value} {sa : Option Addr} {k sc : Nat} {E : List (Nat × Nat × Nat)} {R : List (List Int)} {g1 m c1 g2 c2 : Nat} (h : Cpy w0 wr g q H v sa k sc E R) (hw0 : w0.heap.size ≤ g) (hgq : g + 1 < q)
    (hb1 : Below wr.heap.size wr w1) (hr1 : RowB 3 1 eI 0 w1 (some ⟨g1, 0, none⟩) m c1 (R.getD k [])) (hg1 : wr.heap.size ≤ g1) 
    (hr2 : RowB 30 1 eR (q + 1) w2 (some ⟨g2, 0, none⟩) (k + 1) c2 (E ++ [(g1, m, c1)])) (hk2 : Kept (fun b => sa = some ⟨b, 0, none⟩) w1 w2) (hg2 : sa = some ⟨g2, 0, none⟩ ∨ w1.heap.size ≤ g2) :
    Cpy w0 (w2.setCell ⟨q, 1, none⟩ (.slice (some ⟨g2, 0, none⟩) (k + 1) c2)) g q H v (some ⟨g2, 0, none⟩) (k + 1) c2 (E ++ [(g1, m, c1)]) R := by
  have hl := h.len
  have hql := h.box.lt
  have hsz1 := hb1.size
  have hg1l : g1 < w1.heap.size := (hr1.ownG (by omega)).2.2.2.1
  have hsaq : ∀ b, sa = some ⟨b, 0, none⟩ → q < b ∧ b < wr.heap.size := fun b e => by
    rcases h.tops.parts (by omega) with ⟨e0, _⟩ | ⟨g', e0, h1, h2, _⟩
    · rw [e0] at e; cases e
    · rw [e0] at e; simp only [Option.some.injEq, Addr.mk.injEq, and_true] at e; omega
  have hg2q : q < g2 := by rcases hg2 with e | e; exact (hsaq _ e).1; omega
  have hkq : Kept (fun b => b = q) w2 (w2.setCell ⟨q, 1, none⟩ (.slice (some ⟨g2, 0, none⟩) (k + 1) c2)) := (Kept.refl (fun b => b = q) w2).setCell (p := ⟨q, 1, none⟩) rfl _
  have hE : ∀ r, r < k → (E ++ [(g1, m, c1)]).getD r default = E.getD r default := fun r hr => by
    simp [List.getD, List.getElem?_append_left (show r < E.length by omega)]
  have hEk : (E ++ [(g1, m, c1)]).getD k default = (g1, m, c1) := by
    subst hl
    simp [List.getD]
  have hnb : ∀ b, b ≤ q → ¬ (sa = some ⟨b, 0, none⟩) := fun b hb e => by have := (hsaq b e).1; omega
  have hlt : ∀ r, r < k → (E.getD r default).1 < wr.heap.size := fun r hr => ((h.row r hr).ownG (by omega)).2.2.2.1
  have hg2g1 : g2 ≠ g1 := by
    rcases hg2 with e | e
    · have := (hsaq _ e).2; omega
    · omega
  refine ⟨?_, ?_, ?_, ?_, ?_, fun r hr => ?_, fun r hr => ?_, fun r s hr hs hne => ?_⟩
  · have h2 : Below w0.heap.size w0 w2 := (Below.step h.below hb1).trans (hk2.below (B := w0.heap.size) (by have := h.below.size; omega) (fun b e => by have := (hsaq b e).1; omega))
    exact h2.setCell (p := ⟨q, 1, none⟩) (by show w0.heap.size ≤ q; omega) _
  · exact (((h.arg.step hb1).kept hk2 (hnb g (by omega))).kept hkq (by omega))
  · exact (((h.res.step hb1).kept hk2 (hnb (g + 1) (by omega))).kept hkq (by omega))
  · exact ((h.box.step hb1).kept hk2 (hnb q (by omega))).set 1 _ (by simp)
  · exact hr2.kept hkq (fun b e _ _ => by
      simp only [Option.some.injEq, Addr.mk.injEq, and_true] at e
      omega)
  · by_cases e : r = k
    · subst e
      rw [hEk]
      refine ((hr1.kept hk2 (fun b e _ _ => ?_)).kept hkq (fun b e _ _ => ?_))
      · simp only [Option.some.injEq, Addr.mk.injEq, and_true] at e
        intro e'
        have := (hsaq b e').2
        omega
      · simp only [Option.some.injEq, Addr.mk.injEq, and_true] at e
        omega
    · rw [hE r (by omega)]
      refine (((h.row r (by omega)).below hb1).kept hk2 (fun b e _ _ => ?_)).kept hkq (fun b e _ _ => ?_)
      · simp only [Option.some.injEq, Addr.mk.injEq, and_true] at e
        subst e
        exact (h.own r (by omega)).2
      · simp only [Option.some.injEq, Addr.mk.injEq, and_true] at e
        have := (h.own r (by omega)).1
        omega
  · by_cases e : r = k
    · subst e
      rw [hEk]
      refine ⟨by show q < g1; omega, fun e' => ?_⟩
      simp only [Option.some.injEq, Addr.mk.injEq, and_true] at e'
      exact hg2g1 e'
    · rw [hE r (by omega)]
      refine ⟨(h.own r (by omega)).1, fun e' => ?_⟩
      simp only [Option.some.injEq, Addr.mk.injEq, and_true] at e'
      rcases hg2 with e2 | e2
      · exact (h.own r (by omega)).2 (by rw [e2, e'])
      · have := hlt r (by omega); omega
  · by_cases e : r = k
    · subst e
      rw [hEk, hE s (by omega)]
      have := hlt s (by omega)
      show g1 ≠ _
      omega
    · by_cases e2 : s = k
      · subst e2
        rw [hEk, hE r (by omega)]
        have := hlt r (by omega)
        show _ ≠ g1
        omega
      · rw [hE r (by omega), hE s (by omega)]
        exact h.apart r s (by omega) (by omega) hne

/-- The answer of a copy. -/
def CpA (w : World) (H : Int) (R : List (List Int)) (e : Ending) (w' : World) : Prop :=
  ∃ ao n cap, e = .returned (yardV H (.slice ao n cap)) ∧ Below w.heap.size w w' ∧ ((R = [] ∧ ao = none ∧ n = 0 ∧ cap = 0) ∨ ∃ g A C, ao = some ⟨g, 0, none⟩ ∧ n = R.length ∧ R.length ≤ cap ∧ cap ≤ maxLen ∧ SY (fun k => w.heap.size ≤ k) w' g A C R)

theorem Cpy.done {w0 wr : World} {g q : Nat} {H : Int} {v : Value} {sa : Option Addr} {sc : Nat} {E : List (Nat × Nat × Nat)} {R : List (List Int)} (h : Cpy w0 wr g q H v sa R.length sc E R) (V : World) (hV : Kept (fun b => b = g + 1) wr V) (hgq : g + 1 < q) (hg : w0.heap.size ≤ g) : CpA w0 H R (.returned (yardV H (.slice sa R.length sc))) V := by
  refine ⟨sa, R.length, sc, rfl, h.below.trans (hV.below (B := w0.heap.size) h.below.size (fun b e => by omega)), ?_⟩
  rcases h.tops.parts (by omega) with ⟨rfl, h0, rfl, _⟩ | ⟨g', rfl, h1, h2, h3, h4, h5⟩
  · exact Or.inl ⟨List.length_eq_zero_iff.1 h0, rfl, h0, rfl⟩
  · refine Or.inr ⟨g', fun r => (E.getD r default).1, fun r => (E.getD r default).2.2, rfl, rfl, h3, h4, ?_, fun r hr => ?_, by omega, fun r hr => ?_, fun r hr => ?_, fun r s hr hs hne => h.apart r s hr hs hne⟩
    · have ht : recCells 1 eR E = Go.Proofs.Ytjllilmiloippaa.tops (fun r => (E.getD r default).1) (fun r => (E.getD r default).2.2) R := by
        apply List.ext_getElem?
        intro i
        have hl := h.len
        by_cases hi : i < R.length
        · rw [tops_get _ _ _ hi]
          have := recCells_get (n := 1) (enc := eR) (L := E) (i := i) (j := 0) (by omega) (by omega)
          rw [Nat.mul_one, Nat.add_zero] at this
          rw [this]
          have hlr := (h.row i hi).len (by omega)
          simp only [eR, hlr]
        · rw [List.getElem?_eq_none (by rw [recCells_length]; omega), List.getElem?_eq_none (by rw [tops_length]; omega)]
      rw [← ht]
      exact h5.kept hV (by omega)
    · have hlr := (h.row r hr).len (by omega)
      have := h.row r hr
      rw [← hlr] at this
      exact this.kept hV (fun b e _ _ => by
        simp only [Option.some.injEq, Addr.mk.injEq, and_true] at e
        have := (h.own r hr).1
        omega)
    · have := (h.own r hr).1; omega
    · intro e
      exact (h.own r hr).2 (by rw [← e])

set_option maxRecDepth 100000 in
set_option maxHeartbeats 4000000 in
theorem l18Copy_any (H : Int) (v : Value) (R : List (List Int)) (w : World) (h : RowsIn w v R) (hn : R.length ≤ 1048576) (hl : ∀ s, s < R.length → (R.getD s []).length ≤ 1048576) :
    Calls Try.prog 71 #[yardV H v] w fun e w' => CpA w H R e w' := by
  have HV := hide h
  obtain ⟨ao, cap, rfl, hc1, hc2⟩ := rows_cap h
  clear h
  have HL := hide hl
  clear hl
  obtain ⟨V1, eV1⟩ : ∃ V, V = ((w.alloc (.cells #[.int .i64 H, .slice ao R.length cap] 26)).alloc (.cells #[.int .i64 0, .slice none 0 0] 26)).alloc (.cells #[.int .i64 H, .slice none 0 0] 26) := ⟨_, rfl⟩
  have HC : Hid (Cpy w V1 w.heap.size (w.heap.size + 2) H (.slice ao R.length cap) none 0 0 [] R) := by
    show Cpy _ _ _ _ _ _ _ _ _ _ _
    rw [eV1]
    refine ⟨Below.step (Below.step (Below.alloc1 _ _) (Below.alloc1 _ _)) (Below.alloc1 _ _), ((ownV_alloc w #[.int .i64 H, .slice ao R.length cap] 26).alloc _).alloc _, ?_, ?_, rowB_nil _ _ _ _ _, fun r hr => by omega, fun r hr => by omega, fun r s hr => by omega⟩
    · have := ownV_alloc (w.alloc (.cells #[.int .i64 H, .slice ao R.length cap] 26)) #[.int .i64 0, .slice none 0 0] 26
      rw [World.size_alloc] at this
      exact this.alloc _
    · have := ownV_alloc ((w.alloc (.cells #[.int .i64 H, .slice ao R.length cap] 26)).alloc (.cells #[.int .i64 0, .slice none 0 0] 26)) #[.int .i64 H, .slice none 0 0] 26
      rw [World.size_alloc, World.size_alloc] at this
      exact this
  obtain ⟨g, eg⟩ : ∃ g, g = w.heap.size := ⟨_, rfl⟩
  obtain ⟨q, eq⟩ : ∃ q, q = w.heap.size + 2 := ⟨_, rfl⟩
  unfold yardV
  go_enter Try.func71, Try.ntmps71
  go_upto_region 2 with (fail)
  rw [← eV1]
  rw [show w.heap.size + 1 + 1 = w.heap.size + 2 from rfl]
  rw [← eq] at HC ⊢
  have hg1 : w.heap.size + 1 = g + 1 := by omega
  rw [hg1]
  rw [← eg] at HC ⊢
  have hgw : w.heap.size ≤ g := by omega
  have hgq : g + 1 < q := by omega
  clear eV1 eg eq hg1
  go_wp2
  go_loopg [4] R.length (fun gg iv wr => ∃ (k : Nat) (sa : Option Addr) (sc : Nat) (E : List (Nat × Nat × Nat)), k ≤ R.length ∧ gg = R.length - k ∧ iv = .int .i64 k ∧ Hid (Cpy w wr g q H (.slice ao R.length cap) sa k sc E R))
  case atStart => exact ⟨0, none, 0, [], Nat.zero_le _, rfl, rfl, HC⟩
  case round =>
    clear HC
    obtain ⟨k, sa, sc, E, hk, rfl, rfl, HC⟩ := hrel
    have a0 := (unhide HC).arg.cell (i := 0) rfl
    have a1 := (unhide HC).arg.cell (i := 1) rfl
    have q0 := (unhide HC).box.cell (i := 0) rfl
    have q1 := (unhide HC).box.cell (i := 1) rfl
    have hql := (unhide HC).box.lt
    have hgl := (unhide HC).arg.lt
    by_cases hkn : k < R.length
    · obtain ⟨b, o, eao, hcl⟩ := rows_at (unhide HV) (by omega)
      subst eao
      obtain ⟨ar, m, cr, hcell, hrow, EM, hm1, hm2⟩ := hcl wr (unhide HC).below k hkn
      have hm6 := unhide HL k hkn
      rw [unhide EM] at hm6
      have HRX : Hid (∀ X, Below wr.heap.size wr X → RecsIn 1 eI X (.slice ar m cr) (R.getD k [])) := fun X hb => ints_recs (hrow.below hb)
      clear hcl hrow
      have hcellB := lt_of_cell hcell
      unfold maxLen at hm2
      have hki : (k : Int) < R.length := by omega

      have HRB := hide (rowB_new 3 1 eI wr 0 (Nat.zero_le _))
      have HTP := hide (unhide HC).tops
      have hnq : ¬ wr.heap.size = q := by omega
      have hnq2 : ¬ q = wr.heap.size := by omega
      have hqf := (unhide HC).box.frozen 1
      have HSQ : Hid (∀ b, sa = some ⟨b, 0, none⟩ → q < b ∧ b < wr.heap.size) := fun b e => by
        rcases (unhide HTP).parts (by omega) with ⟨e0, _⟩ | ⟨g', e0, h1, h2, _⟩
        · rw [e0] at e; cases e
        · rw [e0] at e; simp only [Option.some.injEq, Addr.mk.injEq, and_true] at e; omega
      clear q0 a0
      go_upto_region 5 with (fail)
      go_region_law (first | (refine step_appTo tyI (by rfl) (.tmp 17) (.tmp 22) (by rfl) 0 wr.heap.size 0 0 [] (by rfl) (by first | exact unhide HRB | exact (unhide HRB).below (Below.refl _ _).drew) (Nat.zero_le _) (by omega) ar m cr (R.getD k []) (by rfl) (unhide HRX _ (by first | exact Below.alloc1 _ _ | exact (Below.alloc1 _ _).drew)) (by omega) ?_; intro g1 c1 w1 h1 hk1 hor1; rw [Nat.zero_add, List.nil_append] at h1; have HR1 := hide h1; have HB1 : Hid (Below wr.heap.size wr w1) := (by first | exact (Below.alloc1 wr (.cells #[] 3)).trans (hk1.below (B := wr.heap.size) (by simp) (fun b e => by omega)) | exact (Below.alloc1 wr (.cells #[] 3)).drew.trans (hk1.below (B := wr.heap.size) (by simp) (fun b e => by omega))); have hg1 : wr.heap.size ≤ g1 := (by rcases hor1 with e | e <;> first | omega | (simp at e; omega)); have q1w := wcell3 q1 (unhide HB1); have q1x : ∀ o, (w1.alloc o).cell? ⟨q, 1, none⟩ = _ := fun o => wcell3 q1w (Below.alloc1 w1 o); have a1w := wcell3 a1 (unhide HB1); have z1 := (unhide HB1).size; clear h1 hk1 hor1) | (refine step_appOne tyR (by rfl) (.tmp 16) (.tmp 24) (by rfl) (q + 1) sa k sc E (by rfl) ((unhide HTP).below (Below.step (unhide HB1) (Below.alloc1 _ _))) (by simp; omega) (by omega) (some ⟨w1.heap.size, 0, none⟩) 1 (g1, m, c1) (by rfl) (recs_one _ _ _) ?_; intro g2 c2 w2 h2 hk2 hB2 hor2; have HR2 := hide h2; have HBX := hide (((unhide HC).box.step (Below.step (unhide HB1) (Below.alloc1 w1 (.cells #[.slice (some ⟨g1, 0, none⟩) m c1] 30)))).kept hk2 (fun e => by have := (unhide HSQ q e).1; omega)); have x1 := (unhide HBX).cell (i := 1) rfl; have x2 := (unhide HBX).frozen 1; have HK2 : Hid (Kept (fun b => sa = some ⟨b, 0, none⟩) w1 w2) := (kept_of_below (Below.alloc1 _ _)).trans hk2; have hg2 : sa = some ⟨g2, 0, none⟩ ∨ w1.heap.size ≤ g2 := (by rcases hor2 with e | e <;> first | exact Or.inl e | (right; simp at e; omega)); have HG2 := hide hg2; clear h2 hk2 hor2 hg2 HBX))
      all_goals
        have HN := hide ((unhide HC).next (g1 := g1) (m := m) (c1 := c1) (g2 := g2) (c2 := c2) hgw hgq (unhide HB1) (unhide HR1) hg1 (unhide HR2) (unhide HK2) (unhide HG2))
        clear HR2 HK2 HG2 HR1 x1 x2 q1 a1 q1w q1x a1w hcell HC HTP
        generalize w2.setCell ⟨q, 1, none⟩ (.slice (some ⟨g2, 0, none⟩) (k + 1) c2) = w3 at *
        go_wp2
        go_roundg (R.length - (k + 1))
        case measure => omega
        case rel => exact ⟨k + 1, some ⟨g2, 0, none⟩, c2, E ++ [(g1, m, c1)], by omega, rfl, by go_num, HN⟩
    · have hkk : k = R.length := by omega
      subst hkk
      have r0 := (unhide HC).res.cell (i := 0) rfl
      have r1 := (unhide HC).res.cell (i := 1) rfl
      have rf0 := (unhide HC).res.frozen 0
      have rf1 := (unhide HC).res.frozen 1
      have hrl := (unhide HC).res.lt
      have hne : ¬ q = g + 1 := by omega
      have hne2 : ¬ g + 1 = q := by omega
      have f0 := ((unhide HC).res.set 0 (.int .i64 H) (by simp)).cell (i := 0) rfl
      have f1 := (((unhide HC).res.set 0 (.int .i64 H) (by simp)).set 1 (.slice sa R.length sc) (by simp)).cell (i := 1) rfl
      go_wp2
      refine bodyPost_ret (v := .agg #[.int .i64 H, .slice sa R.length sc]) (by simp [results, Try.results71, go_sem, f0, f1]) rfl ?_
      exact (unhide HC).done _ (((Kept.refl (fun b => b = g + 1) wr).setCell (p := ⟨g + 1, 0, none⟩) rfl _).setCell (p := ⟨g + 1, 1, none⟩) rfl _) hgq hgw

end Go.Proofs.Ytjllilmiloippaa
