/- Laid together out of: FdA, ChL, CpUpdate, DelA, DelI. -/
import Derived.Test.YtmpicamenjnkkaaPr
import Derived.Test.YtmpicamenjnkkaaPe
import Derived.Test.YtmpicamenjnkkaaPk
import Derived.Test.YtmpicamenjnkkaaPa
import Derived.Deep.RegionLaw
import Derived.Laws.IdiomCopy
import Derived.Lib.SliceRun
import Derived.WideShapes

/- The contract of the program's firstDone. Written by wip/mkfd.py. -/
namespace Go.Proofs.Ytmpicamenjnkkaa
open Go.RowKit

/-- What firstDone tells: the first update that can be done, and the chart behind it; or none. -/
def FdAns (d : Ch) (L : List UpT) (da : Option Addr) (dk : Nat) (fa : Option Addr) (fk : Nat) (w w' : World) (e : Ending) : Prop :=
  (∃ (k : Nat) (qa : Option Addr) (qk : Nat) (qb : Option Addr) (ql : Nat), (List.range L.length).find? (okAt d L) = some k ∧ k < L.length ∧ e = .returned (.tuple #[vChart (applyOf d (L.getD k default)).1.wd (applyOf d (L.getD k default)).1.hg (.slice qa (applyOf d (L.getD k default)).1.D.length qk) (.slice qb (applyOf d (L.getD k default)).1.F.length ql) (applyOf d (L.getD k default)).1.ed, .int .i64 (k : Int)]) ∧ OwnCh w.heap.size w'.heap.size w' qa qk qb ql (applyOf d (L.getD k default)).1.D (applyOf d (L.getD k default)).1.F (recCells 5 eFeature (applyOf d (L.getD k default)).1.F)) ∨
  ((List.range L.length).find? (okAt d L) = none ∧ e = .returned (.tuple #[vChart d.wd d.hg (.slice da d.D.length dk) (.slice fa d.F.length fk) d.ed, .int .i64 (-1)]))

set_option maxRecDepth 1000000 in
set_option maxHeartbeats 16000000 in
theorem firstDone_any (d : Ch) (L : List UpT) (da : Option Addr) (dk : Nat) (fa : Option Addr) (fk : Nat) (lao : Option Addr) (ln lc : Nat) (w : World) (hD : IntsIn w (.slice da d.D.length dk) d.D) (hF : RFeature w (.slice fa d.F.length fk) d.F) (hL : UpsIn w (.slice lao ln lc) L) (hn : L.length ≤ 60) (hsD : d.D.length ≤ 1048576) (hsF : d.F.length ≤ 1048576)
    (hI : ∀ k, k < L.length → ∀ i, i < (L.getD k default).2.length → -9223372036854775808 ≤ ((L.getD k default).2.getD i default).2.1 ∧ ((L.getD k default).2.getD i default).2.1 ≤ 9223372036854775807) :
    Calls Try.prog 47 #[vChart d.wd d.hg (.slice da d.D.length dk) (.slice fa d.F.length fk) d.ed, .slice lao ln lc] w fun e w' => FdAns d L da dk fa fk w w' e ∧ Below w.heap.size w w' := by
  have HB := hide (((blks_nil w).made #[.int .i64 d.wd, .int .i64 d.hg, .slice da d.D.length dk, .slice fa d.F.length fk, .int .i64 d.ed] 27).made #[.int .i64 0, .int .i64 0, .slice none 0 0, .slice none 0 0, .int .i64 0] 27)
  simp only [World.size_alloc] at HB
  have HB0 : Hid (Blks w _ [(w.heap.size, [.int .i64 d.wd, .int .i64 d.hg, .slice da d.D.length dk, .slice fa d.F.length fk, .int .i64 d.ed]), (w.heap.size + 1, [.int .i64 0, .int .i64 0, .slice none 0 0, .slice none 0 0, .int .i64 0])]) := hide ((unhide HB).less (L' := [(w.heap.size, [.int .i64 d.wd, .int .i64 d.hg, .slice da d.D.length dk, .slice fa d.F.length fk, .int .i64 d.ed]), (w.heap.size + 1, [.int .i64 0, .int .i64 0, .slice none 0 0, .slice none 0 0, .int .i64 0])]) (by simp))
  replace HB := HB0
  clear HB0
  have HD := hide hD
  have HF := hide hF
  have HL := hide hL
  have HI := hide hI
  obtain ⟨lao', lc', eL, hll, hlm, -⟩ := hL
  simp only [Value.slice.injEq] at eL
  obtain ⟨rfl, rfl, rfl⟩ := eL
  unfold maxLen at hlm
  clear hD hF hI
  unfold vChart
  go_enter Try.func47, Try.ntmps47
  go_wp2
  go_loopg [12] L.length (fun g iv wr => ∃ k : Nat, k ≤ L.length ∧ g = L.length - k ∧ iv = .int .i64 (k : Int) ∧ Hid (∀ r, r < k → okAt d L r = false) ∧ Hid (Blks w wr [(w.heap.size, [.int .i64 d.wd, .int .i64 d.hg, .slice da d.D.length dk, .slice fa d.F.length fk, .int .i64 d.ed]), (w.heap.size + 1, [.int .i64 0, .int .i64 0, .slice none 0 0, .slice none 0 0, .int .i64 0])]))
  case atStart => exact ⟨0, Nat.zero_le _, rfl, rfl, fun r hr => by omega, HB⟩
  case round =>
    clear HB
    obtain ⟨k, hk, rfl, rfl, HNO, HB⟩ := hrel
    have hzw : w.heap.size + 1 < wr.heap.size := (unhide HB).lt (w.heap.size + 1, [.int .i64 0, .int .i64 0, .slice none 0 0, .slice none 0 0, .int .i64 0]) (by simp)
    by_cases hkn : k < L.length
    case neg =>
      have hki : ¬ (k : Int) < L.length := by omega
      have HNN : Hid ((List.range L.length).find? (okAt d L) = none) := by
        show _ = _
        rw [List.find?_eq_none]
        intro x hx
        rw [List.mem_range] at hx
        rw [unhide HNO x (by omega)]
        simp
      have hq := (unhide HB).at (g := w.heap.size) (vs := [.int .i64 d.wd, .int .i64 d.hg, .slice da d.D.length dk, .slice fa d.F.length fk, .int .i64 d.ed]) (by simp)
      have c0 := hq.cell (i := 0) rfl
      have c1 := hq.cell (i := 1) rfl
      have c2 := hq.cell (i := 2) rfl
      have c3 := hq.cell (i := 3) rfl
      have c4 := hq.cell (i := 4) rfl
      clear hq
      have hq := (unhide HB).at (g := w.heap.size + 1) (vs := [.int .i64 0, .int .i64 0, .slice none 0 0, .slice none 0 0, .int .i64 0]) (by simp)
      have r0 := hq.cell (i := 0) rfl
      have r1 := hq.cell (i := 1) rfl
      have r2 := hq.cell (i := 2) rfl
      have r3 := hq.cell (i := 3) rfl
      have r4 := hq.cell (i := 4) rfl
      clear hq
      have rf := ((unhide HB).at (g := w.heap.size + 1) (vs := [.int .i64 0, .int .i64 0, .slice none 0 0, .slice none 0 0, .int .i64 0]) (by simp)).frozen
      have hx1 : ¬ w.heap.size = w.heap.size + 1 := by omega
      have hx2 : ¬ w.heap.size + 1 = w.heap.size := by omega
      have K8 := hide (kept_five (Kept.refl (fun b => b = w.heap.size + 1) wr) rfl (.int .i64 d.wd) (.int .i64 d.hg) (.slice da d.D.length dk) (.slice fa d.F.length fk) (.int .i64 d.ed))
      have HB8 := hide (blks_five ((unhide HB).less (L' := []) (by simp)) ((unhide HB).at (g := w.heap.size + 1) (vs := [.int .i64 0, .int .i64 0, .slice none 0 0, .slice none 0 0, .int .i64 0]) (by simp)) (by omega) (by intro p hp; simp at hp) (.int .i64 d.wd) (.int .i64 d.hg) (.slice da d.D.length dk) (.slice fa d.F.length fk) (.int .i64 d.ed))
      go_wp2
      have hq8 := (unhide HB8).at (g := w.heap.size + 1) (vs := [.int .i64 d.wd, .int .i64 d.hg, .slice da d.D.length dk, .slice fa d.F.length fk, .int .i64 d.ed]) (by simp)
      have q0 := hq8.cell (i := 0) rfl
      have q1 := hq8.cell (i := 1) rfl
      have q2 := hq8.cell (i := 2) rfl
      have q3 := hq8.cell (i := 3) rfl
      have q4 := hq8.cell (i := 4) rfl
      refine bodyPost_ret (v := .tuple #[.agg #[.int .i64 d.wd, .int .i64 d.hg, .slice da d.D.length dk, .slice fa d.F.length fk, .int .i64 d.ed], .int .i64 (-1)]) (by simp [results, Try.results47, go_sem, q0, q1, q2, q3, q4]) rfl ⟨Or.inr ⟨unhide HNN, rfl⟩, (unhide HB8).below⟩
    have hki : (k : Int) < L.length := by omega
    obtain ⟨lao', lc', eL', -, -, hlc⟩ := (unhide HL).below (unhide HB).below
    simp only [Value.slice.injEq] at eL'
    obtain ⟨rfl, -, rfl⟩ := eL'
    obtain ⟨lb, lo, na, nc, ela, cu0, cu1, hru⟩ := hlc k hkn
    subst ela
    have hIk := unhide HI k hkn
    obtain ⟨⟨ue, un⟩, eu⟩ : ∃ z, z = L.getD k default := ⟨_, rfl⟩
    rw [← eu] at cu0 cu1 hru hIk
    dsimp only at cu0 cu1 hru hIk
    obtain ⟨⟨d', code⟩, ez⟩ : ∃ z, z = applyOf d (ue, un) := ⟨_, rfl⟩
    have AU := Below.alloc1 wr (.cells #[.int .i64 ue, .slice na un.length nc] 35)
    have HSP := hide (implApply6_any d ue un da d.D.length dk fa d.F.length fk na un.length nc _ ((unhide HD).below (Below.step (unhide HB).below AU)) ((unhide HF).below (Below.step (unhide HB).below AU)) (hru.below AU) hsD hsF hIk)
    simp only [← ez] at HSP
    unfold vChart vUpdate at HSP
    have HOK : Hid (okAt d L k = decide (code = 0)) := by show _ = _; unfold okAt; rw [← eu, ← ez]
    have HAP : Hid (applyOf d (L.getD k default) = (d', code)) := by show _ = _; rw [← eu, ← ez]
    have OU := hide (ownV_alloc wr #[.int .i64 ue, .slice na un.length nc] 35)
    clear eu ez hlc hru hIk
    have hq := (unhide HB).at (g := w.heap.size) (vs := [.int .i64 d.wd, .int .i64 d.hg, .slice da d.D.length dk, .slice fa d.F.length fk, .int .i64 d.ed]) (by simp)
    have c0 := hq.cell (i := 0) rfl
    have c1 := hq.cell (i := 1) rfl
    have c2 := hq.cell (i := 2) rfl
    have c3 := hq.cell (i := 3) rfl
    have c4 := hq.cell (i := 4) rfl
    clear hq
    have hul := lt_of_cell cu0
    simp only at hul
    go_upto_region 4 with (fail)
    replace HB := hide ((unhide HB).step AU)
    obtain ⟨W1, eW1⟩ : ∃ z, z = wr.alloc (.cells #[.int .i64 ue, .slice na un.length nc] 35) := ⟨_, rfl⟩
    obtain ⟨gu, egu⟩ : ∃ z, z = wr.heap.size := ⟨_, rfl⟩
    rw [← eW1] at HB HSP OU ⊢
    rw [← egu] at OU hzw ⊢
    have hw1 : gu < W1.heap.size := by rw [eW1, World.size_alloc, egu]; omega
    clear eW1 egu AU c0 c1 c2 c3 c4 cu0 cu1 hul
    have hq := (unhide HB).at (g := w.heap.size) (vs := [.int .i64 d.wd, .int .i64 d.hg, .slice da d.D.length dk, .slice fa d.F.length fk, .int .i64 d.ed]) (by simp)
    have c0 := hq.cell (i := 0) rfl
    have c1 := hq.cell (i := 1) rfl
    have c2 := hq.cell (i := 2) rfl
    have c3 := hq.cell (i := 3) rfl
    have c4 := hq.cell (i := 4) rfl
    clear hq
    have v0 := (unhide OU).cell (i := 0) rfl
    have v1 := (unhide OU).cell (i := 1) rfl
    go_wp2_with fail
    refine (unhide HSP).mono ?_
    rintro e w4 ⟨qa, qk, qb, ql, rfl, hoc, hb⟩
    have hz4 := hb.size
    replace HB := hide ((unhide HB).step hb)
    clear hb HSP c0 c1 c2 c3 c4 v0 v1 OU
    have AN := Below.alloc1 w4 (.cells #[.int .i64 d'.wd, .int .i64 d'.hg, .slice qa d'.D.length qk, .slice qb d'.F.length ql, .int .i64 d'.ed] 27)
    have HNX := hide (ownV_alloc w4 #[.int .i64 d'.wd, .int .i64 d'.hg, .slice qa d'.D.length qk, .slice qb d'.F.length ql, .int .i64 d'.ed] 27)
    replace HB := hide ((unhide HB).step AN)
    have HS := hide (hoc.below AN)
    go_upto_region 5 with (fail)
    obtain ⟨Y, eY⟩ : ∃ z, z = w4.alloc (.cells #[.int .i64 d'.wd, .int .i64 d'.hg, .slice qa d'.D.length qk, .slice qb d'.F.length ql, .int .i64 d'.ed] 27) := ⟨_, rfl⟩
    obtain ⟨gn, egn⟩ : ∃ z, z = w4.heap.size := ⟨_, rfl⟩
    rw [← eY] at HB HNX HS ⊢
    rw [← egn] at HNX ⊢
    have hgn : W1.heap.size ≤ gn := by omega
    clear eY egn AN hoc
    by_cases hc0 : code = 0
    case neg =>
      have d4 : (code == 0) = false := by simp [hc0]
      go_wp2
      go_roundg (L.length - (k + 1))
      case measure => omega
      case rel => exact ⟨k + 1, by omega, rfl, by go_num, (fun r hr => by
        by_cases e : r = k
        · rw [e, unhide HOK, decide_eq_false hc0]
        · exact unhide HNO r (by omega)), HB⟩
    subst hc0
    have HFD := hide (find_first (f := okAt d L) hkn (unhide HNO) (by rw [unhide HOK]; rfl))
    have hq := (unhide HB).at (g := w.heap.size + 1) (vs := [.int .i64 0, .int .i64 0, .slice none 0 0, .slice none 0 0, .int .i64 0]) (by simp)
    have r0 := hq.cell (i := 0) rfl
    have r1 := hq.cell (i := 1) rfl
    have r2 := hq.cell (i := 2) rfl
    have r3 := hq.cell (i := 3) rfl
    have r4 := hq.cell (i := 4) rfl
    clear hq
    have x0 := (unhide HNX).cell (i := 0) rfl
    have x1 := (unhide HNX).cell (i := 1) rfl
    have x2 := (unhide HNX).cell (i := 2) rfl
    have x3 := (unhide HNX).cell (i := 3) rfl
    have x4 := (unhide HNX).cell (i := 4) rfl
    have hy1 : ¬ gn = w.heap.size + 1 := by omega
    have hy2 : ¬ w.heap.size + 1 = gn := by omega
    have rf := ((unhide HB).at (g := w.heap.size + 1) (vs := [.int .i64 0, .int .i64 0, .slice none 0 0, .slice none 0 0, .int .i64 0]) (by simp)).frozen
    have hx1 : ¬ w.heap.size = w.heap.size + 1 := by omega
    have hx2 : ¬ w.heap.size + 1 = w.heap.size := by omega
    have K8 := hide (kept_five (Kept.refl (fun b => b = w.heap.size + 1) Y) rfl (.int .i64 d'.wd) (.int .i64 d'.hg) (.slice qa d'.D.length qk) (.slice qb d'.F.length ql) (.int .i64 d'.ed))
    have HB8 := hide (blks_five ((unhide HB).less (L' := []) (by simp)) ((unhide HB).at (g := w.heap.size + 1) (vs := [.int .i64 0, .int .i64 0, .slice none 0 0, .slice none 0 0, .int .i64 0]) (by simp)) (by omega) (by intro p hp; simp at hp) (.int .i64 d'.wd) (.int .i64 d'.hg) (.slice qa d'.D.length qk) (.slice qb d'.F.length ql) (.int .i64 d'.ed))
    have HS8 := hide (OwnCh.lower (OwnCh.whole ((unhide HS).kept (unhide K8) (fun b hb1 hb2 e => by omega))) (show w.heap.size ≤ _ by omega))
    go_wp2
    have hq8 := (unhide HB8).at (g := w.heap.size + 1) (vs := [.int .i64 d'.wd, .int .i64 d'.hg, .slice qa d'.D.length qk, .slice qb d'.F.length ql, .int .i64 d'.ed]) (by simp)
    have q0 := hq8.cell (i := 0) rfl
    have q1 := hq8.cell (i := 1) rfl
    have q2 := hq8.cell (i := 2) rfl
    have q3 := hq8.cell (i := 3) rfl
    have q4 := hq8.cell (i := 4) rfl
    refine bodyPost_ret (v := .tuple #[.agg #[.int .i64 d'.wd, .int .i64 d'.hg, .slice qa d'.D.length qk, .slice qb d'.F.length ql, .int .i64 d'.ed], .int .i64 (k : Int)]) (by simp [results, Try.results47, go_sem, q0, q1, q2, q3, q4]) rfl ⟨Or.inl ⟨k, qa, qk, qb, ql, unhide HFD, hkn, by rw [unhide HAP]; rfl, by rw [unhide HAP]; exact unhide HS8⟩, (unhide HB8).below⟩

end Go.Proofs.Ytmpicamenjnkkaa

/- Lists of updates of the call's own; a contract of the laws' own toUpdateS. No statement about the program stands here. -/
namespace Go.Proofs.Ytmpicamenjnkkaa
open Go.RowKit

def eUp (q : Int × Nat × Nat) : Nat → Value
  | 0 => .int .i64 q.1
  | _ => .slice (some ⟨q.2.2, 0, none⟩) q.2.1 q.2.1
/-- The updates L in numbers, the notes of the r-th in block G r. -/
def upL (L : List UpT) (G : Nat → Nat) : List (Int × Nat × Nat) := (List.range L.length).map fun r => ((L.getD r default).1, (L.getD r default).2.length, G r)
theorem upL_len (L : List UpT) (G : Nat → Nat) : (upL L G).length = L.length := by simp [upL]
theorem upL_get {L : List UpT} {G : Nat → Nat} {r : Nat} (hr : r < L.length) : (upL L G).getD r default = ((L.getD r default).1, (L.getD r default).2.length, G r) := by simp [upL, List.getD, hr]
/-- The updates L stand in block g, the notes of the r-th in block G r behind it. -/
def OwnUps (w : World) (g : Nat) (G : Nat → Nat) (L : List UpT) : Prop :=
  OwnV w g (recCells 2 eUp (upL L G)) ∧ (∀ r, r < L.length → g < G r ∧ OwnV w (G r) (recCells 7 eNote (L.getD r default).2)) ∧ ∀ r s, r < s → s < L.length → G r < G s
theorem OwnUps.step {w w' : World} {g : Nat} {G : Nat → Nat} {L : List UpT} (h : OwnUps w g G L) (hb : Below w.heap.size w w') : OwnUps w' g G L :=
  ⟨h.1.step hb, fun r hr => ⟨(h.2.1 r hr).1, (h.2.1 r hr).2.step hb⟩, h.2.2⟩
theorem OwnUps.kept {T : Nat → Prop} {w w' : World} {g : Nat} {G : Nat → Nat} {L : List UpT} (h : OwnUps w g G L) (hk : Kept T w w') (hT : ∀ b, g ≤ b → ¬ T b) : OwnUps w' g G L :=
  ⟨h.1.kept hk (hT _ (Nat.le_refl _)), fun r hr => ⟨(h.2.1 r hr).1, (h.2.1 r hr).2.kept hk (hT _ (Nat.le_of_lt (h.2.1 r hr).1))⟩, h.2.2⟩
theorem OwnUps.inn {w : World} {g : Nat} {G : Nat → Nat} {L : List UpT} (h : OwnUps w g G L) (h1 : L.length ≤ 1048576) (h2 : ∀ r, r < L.length → (L.getD r default).2.length ≤ 1048576) : UpsIn w (.slice (some ⟨g, 0, none⟩) L.length L.length) L := by
  refine ⟨_, _, rfl, Nat.le_refl _, by unfold maxLen; omega, fun i hi => ?_⟩
  have hc : ∀ j, j < 2 → w.cell? ⟨g, i * 2 + j, none⟩ = some (eUp ((L.getD i default).1, (L.getD i default).2.length, G i) j) := fun j hj => by
    rw [← upL_get hi]
    refine h.1.cell ?_
    have hq : i * 2 + j < (upL L G).length * 2 := by rw [upL_len]; omega
    have e1 : (i * 2 + j) / 2 = i := by omega
    have e2 : (i * 2 + j) % 2 = j := by omega
    simp [recCells, List.getElem?_range hq, e1, e2]
  have c0 := hc 0 (by omega)
  have c1 := hc 1 (by omega)
  have z := h2 i hi
  exact ⟨g, 0, some ⟨G i, 0, none⟩, _, rfl, by first | (simp [eUp]; done) | simpa [eUp] using c0, by first | (simp [eUp]; done) | simpa [eUp] using c1, OwnV.recsIn (h.2.1 i hi).2 (Nat.le_refl _) (by unfold maxLen; omega)⟩

theorem FillC.congr {α : Type} [Inhabited α] {n : Nat} {enc : α → Nat → Value} {w wr : World} {L L' : List α} {k : Nat} (h : FillC n enc w wr L (k * n)) (hl : L'.length = L.length) (he : ∀ r, r < k → L'.getD r default = L.getD r default) : FillC n enc w wr L' (k * n) := by
  obtain ⟨h0, c, t, h1, h2, h3⟩ := h
  refine ⟨h0, c, t, h1, by rw [hl]; exact h2, fun q hq => ?_⟩
  have : q / n < k := Nat.div_lt_of_lt_mul (by rw [Nat.mul_comm]; exact hq)
  rw [h3 q hq, he _ this]

/-- So far k updates are filled in. -/
structure FillU (w wr : World) (L : List UpT) (k : Nat) (G : Nat → Nat) : Prop where
  fill : FillC 2 eUp w wr (upL L G) (k * 2)
  own : ∀ r, r < k → w.heap.size < G r ∧ OwnV wr (G r) (recCells 7 eNote (L.getD r default).2)
  inc : ∀ r s, r < s → s < k → G r < G s
theorem FillU.grow {w wr w1 : World} {L : List UpT} {k : Nat} {G : Nat → Nat} (h : FillU w wr L k G) (hb : Below wr.heap.size wr w1) : FillU w w1 L k G := ⟨h.fill.grow hb, fun r hr => ⟨(h.own r hr).1, (h.own r hr).2.step hb⟩, h.inc⟩
theorem FillU.next {w wr : World} {L : List UpT} {k : Nat} {G : Nat → Nat} (h : FillU w wr L k G) (hk : k < L.length) {g : Nat} {ed : Int} {U : List NoteT} (e : (ed, U) = L.getD k default) (hg : ∀ r, r < k → G r < g) (hg0 : w.heap.size < g) (ho : OwnV wr g (recCells 7 eNote U)) :
    FillU w ((wr.setCell ⟨w.heap.size, k * 2, none⟩ (.int .i64 ed)).setCell ⟨w.heap.size, k * 2 + 1, none⟩ (.slice (some ⟨g, 0, none⟩) U.length U.length)) L (k + 1) (fun r => if r = k then g else G r) := by
  have f0 : FillC 2 eUp w wr (upL L fun r => if r = k then g else G r) (k * 2) := h.fill.congr (by rw [upL_len, upL_len]) fun r hr => by
    rw [upL_get (by omega), upL_get (by omega), if_neg (by omega)]
  have hl : k * 2 + 1 < (upL L fun r => if r = k then g else G r).length * 2 := by rw [upL_len]; omega
  have s0 := f0.set (v := .int .i64 ed) (by omega) (by rw [show (k * 2) / 2 = k by omega, show (k * 2) % 2 = 0 by omega, upL_get hk, ← e]; rfl)
  have s1 := s0.set (v := .slice (some ⟨g, 0, none⟩) U.length U.length) (by omega) (by rw [show (k * 2 + 1) / 2 = k by omega, show (k * 2 + 1) % 2 = 1 by omega, upL_get hk, ← e]; simp [eUp])
  refine ⟨by rw [show (k + 1) * 2 = k * 2 + 1 + 1 by omega]; exact s1, fun r hr => ?_, fun r s hrs hs => ?_⟩
  · by_cases hrk : r = k
    · subst hrk
      simp only [if_true]
      rw [← e]
      exact ⟨hg0, (ho.other (a := ⟨w.heap.size, r * 2, none⟩) (by simp only; omega) _).other (a := ⟨w.heap.size, r * 2 + 1, none⟩) (by simp only; omega) _⟩
    · simp only [if_neg hrk]
      obtain ⟨q1, q2⟩ := h.own r (by omega)
      exact ⟨q1, (q2.other (a := ⟨w.heap.size, k * 2, none⟩) (by simp only; omega) _).other (a := ⟨w.heap.size, k * 2 + 1, none⟩) (by simp only; omega) _⟩
  · by_cases hsk : s = k
    · subst hsk
      simp only [if_true]
      rw [if_neg (by omega)]
      exact hg r hrs
    · rw [if_neg (by omega), if_neg hsk]
      exact h.inc r s hrs (by omega)

theorem Try.infoUpdate : (Try.prog.info? 35).map (fun i => (i.zero, i.size, i.bytes)) = some (some (vUpdate 0 (.slice none 0 0)), 2, 32) := by kernel_rfl

set_option maxHeartbeats 1600000 in
theorem toUpdateS_any (v : Value) (L : List UpT) (w : World) (h : UpsIn w v L) (hs : L.length ≤ 1048576) (hl : ∀ i, i < L.length → (L.getD i default).2.length ≤ 1048576) :
    Calls Try.prog 32 #[v] w fun e w' => ∃ g G, e = .returned (.slice (some ⟨g, 0, none⟩) L.length L.length) ∧ w.heap.size ≤ g ∧ OwnUps w' g G L ∧ Below w.heap.size w w' := by
  obtain ⟨ao, cap, rfl, hlc, hm, hc⟩ := h
  clear hlc hm
  have HC := hide hc
  have HL := hide hl
  clear hc hl
  have hmk := run_make_recs (P := Try.prog) 28 35 _ 2 32 Try.underlying28 Try.infoUpdate .i64 .i64 L.length (by omega) (by omega)
  go_enter Try.func32, Try.ntmps32
  go_wp2
  clear hmk
  go_loopg [4] L.length (fun g i wr => ∃ k : Nat, ∃ G, k ≤ L.length ∧ g = L.length - k ∧ i = .int .i64 k ∧ FillU w wr L k G)
  case atStart =>
    refine ⟨0, fun _ => 0, Nat.zero_le _, rfl, rfl, ⟨?_, fun r hr => by omega, fun r s _ hs => by omega⟩⟩
    rw [Nat.zero_mul]
    have st : ∀ z t, FillC 2 eUp w (w.alloc (.cells (madeCells z (L.length * 2)) t)) (upL L fun _ => 0) 0 := fun z t => by
      have := FillC.start (n := 2) (enc := eUp) w (upL L fun _ => 0) z t
      rw [upL_len] at this
      exact this
    exact st _ _
  case round =>
    obtain ⟨k, G, hk, rfl, rfl, hF⟩ := hrel
    by_cases hkn : k < L.length
    · obtain ⟨b, o, na, nc, rfl, hc0, hc1, hr⟩ := unhide HC k hkn
      have hkl := unhide HL k hkn
      have HT := hide fun V (hV : Below w.heap.size w V) => toUpdate_any (L.getD k default).1 na _ nc (L.getD k default).2 V (hr.below hV) hkl
      obtain ⟨⟨ed, U⟩, eq⟩ : ∃ z, z = L.getD k default := ⟨_, rfl⟩
      rw [← eq] at hc0 hc1 HT
      have EX := hide eq
      have g0 := wcell3 hc0 hF.fill.below
      have g1 := wcell3 hc1 hF.fill.below
      have HF := hide hF
      unfold vUpdate at HT
      clear hc0 hc1 hr eq hF hkl
      dsimp only at g0 g1 HT
      go_wp2_with fail
      refine (unhide HT _ (unhide HF).fill.below).mono ?_
      rintro e w1 ⟨gn, rfl, hgn, hon, hb⟩
      have hlt := (unhide HF).fill.lt
      have HG : Hid (∀ r, r < k → G r < gn) := fun r hr => Nat.lt_of_lt_of_le ((unhide HF).own r hr).2.lt hgn
      have hF1 := (unhide HF).grow hb
      have hf := hF1.fill.frozen
      obtain ⟨u0', hu0⟩ := hF1.fill.cell (q := k * 2) (by rw [upL_len]; omega)
      obtain ⟨u1', hu1⟩ := hF1.fill.cell (q := k * 2 + 1) (by rw [upL_len]; omega)
      have HF1 := hide hF1
      have HO := hide hon
      have hgn' : w.heap.size < gn := by omega
      clear hb HF hF1 HT hon hgn hlt
      go_wp2
      go_roundg (L.length - (k + 1))
      case measure => omega
      case rel => exact ⟨k + 1, _, by omega, rfl, by go_num, (unhide HF1).next hkn (unhide EX) (unhide HG) hgn' (unhide HO)⟩
    · have hkk : k = L.length := by omega
      subst hkk
      go_wp2
      go_ret
      have hd := hF.fill
      rw [← upL_len L G] at hd
      exact ⟨_, G, rfl, Nat.le_refl _, ⟨hd.done, hF.own, hF.inc⟩, hF.fill.below⟩

end Go.Proofs.Ytmpicamenjnkkaa

/- The contract of the program's ownCopy of Update, over raw cells. -/
namespace Go.Proofs.Ytmpicamenjnkkaa
open Go.RowKit

set_option maxRecDepth 10000 in
set_option maxHeartbeats 1600000 in
theorem ownCopyUpdate_any (ar : Option Addr) (m cr : Nat) (cs : List Value) (w : World) (hl : cs.length = m * 2) (hs : 0 < m → ∃ ad, ar = some ad ∧ ∀ j v, cs[j]? = some v → w.cell? (ad.add j) = some v) (h1 : ∀ v ∈ cs, v.oneCell' = true) (hm : m ≤ 1048576) :
    Calls Try.prog 46 #[.slice ar m cr] w fun e w' => e = .returned (.slice (some ⟨w.heap.size, 0, none⟩) m m) ∧ OwnV w' w.heap.size cs ∧ Below w.heap.size w w' := by
  have hmk := run_make_recs (P := Try.prog) 28 35 _ 2 32 Try.underlying28 Try.infoUpdate .i64 .i64 m (by omega) (by omega)
  obtain ⟨Z, eZ⟩ : ∃ Z, Z = (vUpdate 0 (.slice none 0 0)).cells := ⟨_, rfl⟩
  rw [← eZ] at hmk
  have hsz : (Try.prog.info? 35).map (·.size) = some 2 := by
    obtain ⟨i0, hi, -, hz1, -⟩ := info_parts Try.infoUpdate
    rw [hi, Option.map_some, hz1]
  have HSRC := hide hs
  have HCS : Hid (cs.length = (m * 2)) := hl
  have H1 : Hid (∀ v ∈ cs, v.oneCell' = true) := h1
  have A := Below.alloc1 w (.cells (madeCells Z (m * 2)) 35)
  have HW := hide A
  have O := ownV_alloc w (madeCells Z (m * 2)) 35
  have HO := hide O
  have hzl : (madeCells Z (m * 2)).toList.length = (m * 2) := by simp [madeCells]
  have HZL := hide hzl
  have HSRC2 : Hid (0 < m → ∃ ad, ar = some ad ∧ ∀ j v, cs[j]? = some v → (w.alloc (.cells (madeCells Z (m * 2)) 35)).cell? (ad.add j) = some v) := fun hp => by
    obtain ⟨ad, e, hx⟩ := unhide HSRC hp
    exact ⟨ad, e, fun j v hj => ((A.cell (lt_of_cell (hx j v hj))).trans (hx j v hj))⟩
  obtain ⟨w1, hrun, hO1, hb1⟩ := run_copy_all 28 28 35 2 Try.underlying28 hsz w.heap.size m m ar cr _ _ (unhide HO) (by rw [unhide HZL, unhide HCS]) (unhide HCS) (unhide HSRC2) (unhide H1) w.heap.size w (unhide HW) (Nat.le_refl _)
  have HO1 := hide hO1
  have HW1 := hide hb1
  clear eZ A O hzl HSRC hsz HO HW HSRC2 H1 HCS HZL hO1 hb1 hl hs h1
  go_enter Try.func46, Try.ntmps46
  go_wp2
  go_ret
  exact ⟨rfl, unhide HO1, unhide HW1⟩

end Go.Proofs.Ytmpicamenjnkkaa

/- Rows that are stored into in place; the contract of slices.Delete at updates. -/
namespace Go.Proofs.Ytmpicamenjnkkaa
open Go.RowKit

theorem OwnV.pre {w : World} {g : Nat} {a b : List Value} (h : OwnV w g (a ++ b)) : OwnV w g a := by
  obtain ⟨c, t, hh, hc⟩ := h
  refine ⟨c, t, hh, fun i hi => ?_⟩
  rw [hc i (by rw [List.length_append]; omega), List.getElem?_append_left hi]
theorem set_take {cs : List Value} {off : Nat} (h : off < cs.length) (v : Value) : (cs.set off v).take (off + 1) = cs.take off ++ [v] := by
  apply List.ext_getElem?
  intro i
  by_cases h1 : i < off
  · rw [List.getElem?_take, if_pos (by omega), List.getElem?_set_ne (by omega), List.getElem?_append_left (by rw [List.length_take]; omega), List.getElem?_take, if_pos h1]
  · by_cases h2 : i = off
    · subst h2
      rw [List.getElem?_take, if_pos (by omega), List.getElem?_set_self h, List.getElem?_append_right (by rw [List.length_take]; omega), List.length_take, show i - min i cs.length = 0 by omega]
      rfl
    · rw [List.getElem?_take, if_neg (by omega), List.getElem?_eq_none (by rw [List.length_append, List.length_take]; simp; omega)]
theorem set_drop {cs : List Value} {off m : Nat} (h : off < m) (v : Value) : (cs.set off v).drop m = cs.drop m := by
  apply List.ext_getElem?
  intro i
  rw [List.getElem?_drop, List.getElem?_drop, List.getElem?_set_ne (by omega)]
theorem own_setCells {g : Nat} : ∀ (news : List Value) (off : Nat) (cs : List Value) (w : World), OwnV w g cs → off + news.length ≤ cs.length → OwnV (w.setCells g off news) g (cs.take off ++ news ++ cs.drop (off + news.length)) := by
  intro news
  induction news with
  | nil =>
    intro off cs w h hl
    have e : cs.take off ++ ([] : List Value) ++ cs.drop (off + ([] : List Value).length) = cs := by simp
    rw [e]
    exact h
  | cons v vs ih =>
    intro off cs w h hl
    simp only [List.length_cons] at hl
    have h1 := ih (off + 1) (cs.set off v) (w.setCell ⟨g, off, none⟩ v) (h.set off v (by omega)) (by rw [List.length_set]; omega)
    rw [set_take (by omega), set_drop (by omega)] at h1
    have e : cs.take off ++ (v :: vs) ++ cs.drop (off + (v :: vs).length) = cs.take off ++ [v] ++ vs ++ cs.drop (off + 1 + vs.length) := by
      simp only [List.length_cons, List.append_assoc, List.cons_append, List.nil_append]
      rw [show off + (vs.length + 1) = off + 1 + vs.length by omega]
    rw [e]
    exact h1
theorem kept_setCells {g : Nat} : ∀ (news : List Value) (off : Nat) (w : World), Kept (fun b => b = g) w (w.setCells g off news) := by
  intro news
  induction news with
  | nil => intro off w; exact Kept.refl _ _
  | cons v vs ih =>
    intro off w
    exact (Kept.setCell (T := fun b => b = g) (Kept.refl _ w) (p := ⟨g, off, none⟩) rfl v).trans (ih (off + 1) _)
theorem run_clear_one {P : Program} (w : World) (t e ty : TypeId) (z : Value) (ht : P.underlying t = some (.slice e)) (hv : ∀ w, (zeroValue e).run P w = .ok z w) (h1 : ∀ v ∈ z.cells.toList, v.oneCell' = true) (b o c : Nat)
    (hc : ∀ j, j < z.cells.size → (w.cell? ⟨b, o + j, none⟩).isSome = true) (hf : ∀ j, j < z.cells.size → w.frozen? ⟨b, o + j, none⟩ = false) :
    (Builtin.clear_ #[t] ty #[.slice (some ⟨b, o, none⟩) 1 c]).run P w = .ok (.tuple #[]) (w.setCells b o z.cells.toList) := by
  have hzc : (Builtin.zeroCells z.cells 1).toList = z.cells.toList := by
    apply List.ext_getElem
    · simp [Builtin.zeroCells]
    · intro i h1 h2
      simp [Builtin.zeroCells, Nat.mod_eq_of_lt (show i < z.cells.size by simpa using h2)]
      exact getElem!_pos z.cells i (by simpa using h2)
  have hst := run_storeCells_cells (P := P) b o z.cells.toList 0 w (by simpa using hc) (by simpa using hf) h1
  simp only [Nat.add_zero] at hst
  simp [Builtin.clear_, run_underlying ht, hv, hzc, hst]

set_option maxRecDepth 100000 in
theorem Try.zeroUpdate (w : World) : (zeroValue 35).run Try.prog w = .ok (vUpdate 0 (.slice none 0 0)) w := by
  obtain ⟨i0, hi, hz0, -, -⟩ := info_parts Try.infoUpdate
  first | simp [zeroValue, typeInfo, hi, hz0, go_sem] | kernel_rfl

set_option maxRecDepth 100000 in
set_option maxHeartbeats 4000000 in
theorem delUpdate_any (g m cap k : Nat) (cs : List Value) (w : World) (hO : OwnV w g cs) (hl : cs.length = (m + 1) * 2) (h1 : ∀ v ∈ cs, v.oneCell' = true) (hk : k ≤ m) (hn : m ≤ 60) (hcap : m + 1 ≤ cap) :
    Calls Try.prog 48 #[.slice (some ⟨g, 0, none⟩) (m + 1) cap, .int .i64 (k : Int), .int .i64 ((k : Int) + 1)] w fun e w' => e = .returned (.slice (some ⟨g, 0, none⟩) m cap) ∧ OwnV w' g (cs.take (k * 2) ++ cs.drop ((k + 1) * 2)) ∧ Kept (fun b => b = g) w w' := by
  have a1 : (k : Int) + 1 ≤ ((m + 1 : Nat) : Int) := by omega
  have a1' : (k : Int) ≤ m := by omega
  have a2 : ((m + 1 : Nat) : Int) ≤ cap := by omega
  have a2' : (m : Int) + 1 ≤ cap := by omega
  have a4 : k ≤ cap := by omega
  have a5 : k + 1 ≤ m + 1 := by omega
  have a6 : (k : Int) ≤ cap := by omega
  have a7 : k + 1 ≤ cap := by omega
  have a8 : ((k : Int) + 1).toNat = k + 1 := by omega
  have a9 : (0 : Int) ≤ (k : Int) + 1 := by omega
  have a3 : ((k : Int) == (k : Int) + 1) = false := by simp; omega
  have b1 : k + (m - k) = m := by omega
  have b2 : k + (m + 1 - (k + 1)) = m := by omega
  have b3 : ¬ cap = m := by omega
  have b4 : m ≤ cap := by omega
  have b5 : (m : Int) ≤ cap := by omega
  have b6 : m + 1 - m = 1 := by omega
  obtain ⟨i1, hi', hy0, hy1, hy2⟩ := info_parts Try.infoUpdate
  have HLN : Hid ((cs.drop ((k + 1) * 2)).length = (m + 1 - (k + 1)) * 2) := by show _ = _; rw [List.length_drop, hl]; omega
  have HLE : Hid (cs.take (k * 2) ++ cs.drop ((k + 1) * 2) ++ cs.drop (k * 2 + (cs.drop ((k + 1) * 2)).length) = (cs.take (k * 2) ++ cs.drop ((k + 1) * 2)) ++ cs.drop (m * 2)) := by
    show _ = _
    rw [unhide HLN, show k * 2 + (m + 1 - (k + 1)) * 2 = m * 2 by omega]
  have HOX : Hid (∀ W : World, OwnV W g cs → OwnV (W.setCells g (k * 2) (cs.drop ((k + 1) * 2))) g ((cs.take (k * 2) ++ cs.drop ((k + 1) * 2)) ++ cs.drop (m * 2))) := fun W hW => by
    have h := own_setCells (g := g) (cs.drop ((k + 1) * 2)) (k * 2) cs W hW (by rw [unhide HLN, hl]; omega)
    rw [unhide HLE] at h
    exact h
  have HNW : Hid (∀ W : World, OwnV W g cs → ∀ j u, (cs.drop ((k + 1) * 2))[j]? = some u → W.cell? ((⟨g, (k + 1) * 2, none⟩ : Addr).add j) = some u) := fun W hW j u hu => by
    rw [Go.WideShapes.add_plain]
    rw [List.getElem?_drop] at hu
    exact hW.cell hu
  have H1N : Hid (∀ u ∈ cs.drop ((k + 1) * 2), u.oneCell' = true) := fun u hu => h1 u (List.mem_of_mem_drop hu)
  have HSP : Hid (∀ W : World, OwnV W g cs → ∀ j, j < (cs.drop ((k + 1) * 2)).length → (W.cell? ⟨g, 0 + k * 2 + j, none⟩).isSome = true ∧ W.frozen? ⟨g, 0 + k * 2 + j, none⟩ = false) := fun W hW j hj => by
    rw [unhide HLN] at hj
    have hlt : 0 + k * 2 + j < cs.length := by rw [hl]; omega
    exact ⟨by rw [hW.cell (List.getElem?_eq_getElem hlt)]; rfl, hW.frozen _⟩
  have HCL : Hid (∀ (W : World) (c ty : Nat), OwnV W g ((cs.take (k * 2) ++ cs.drop ((k + 1) * 2)) ++ cs.drop (m * 2)) → (Builtin.clear_ #[28] ty #[.slice (some ⟨g, m * 2, none⟩) 1 c]).run Try.prog W = .ok (.tuple #[]) (W.setCells g (m * 2) (vUpdate 0 (.slice none 0 0)).cells.toList)) := fun W c ty hW => by
    have hlt : ∀ j, j < 2 → m * 2 + j < ((cs.take (k * 2) ++ cs.drop ((k + 1) * 2)) ++ cs.drop (m * 2)).length := fun j hj => by
      rw [List.length_append, List.length_append, List.length_take, unhide HLN, List.length_drop, hl]
      omega
    exact run_clear_one W _ 35 ty _ Try.underlying28 Try.zeroUpdate (by intro v hv; simp [vUpdate, Value.cells] at hv; rcases hv with rfl | rfl <;> rfl) g (m * 2) c (fun j hj => by rw [hW.cell (List.getElem?_eq_getElem (hlt j hj))]; rfl) (fun j hj => hW.frozen _)
  have HPO : Hid (∀ W : World, OwnV W g ((cs.take (k * 2) ++ cs.drop ((k + 1) * 2)) ++ cs.drop (m * 2)) → OwnV (W.setCells g (m * 2) (vUpdate 0 (.slice none 0 0)).cells.toList) g (cs.take (k * 2) ++ cs.drop ((k + 1) * 2))) := fun W hW => by
    have hla : (cs.take (k * 2) ++ cs.drop ((k + 1) * 2)).length = m * 2 := by rw [List.length_append, List.length_take, unhide HLN, hl]; omega
    have h := own_setCells (g := g) (vUpdate 0 (.slice none 0 0)).cells.toList (m * 2) _ W hW (by rw [List.length_append, hla, List.length_drop, hl]; show m * 2 + 2 ≤ _; omega)
    rw [List.take_append_of_le_length (by rw [hla]; exact Nat.le_refl _), List.take_of_length_le (by rw [hla]; exact Nat.le_refl _), List.append_assoc] at h
    exact h.pre
  have HO := hide hO
  obtain ⟨ZC, eZC⟩ : ∃ z, z = (vUpdate 0 (.slice none 0 0)).cells.toList := ⟨_, rfl⟩
  rw [← eZC] at HCL HPO
  clear hO h1 hl eZC
  go_enter Try.func48, Try.ntmps48
  go_wp2
  by_cases hck : cap = k + 1
  · have HNI : Hid (cs.drop ((k + 1) * 2) = []) := by show _ = _; rw [← List.length_eq_zero_iff, unhide HLN]; omega
    have hcT : (cap = k + 1) = True := eq_true hck
    have hz1 : m + 1 - (k + 1) = 0 := by omega
    have hz1' : m - k = 0 := by omega
    have hz2 : cap - (k + 1) = 0 := by omega
    have hz3 : k = m := by omega
    have HZ3 := hide hz3
    clear hck hz3
    go_region_law (refine step_append_room rfl (.tmp 22) (.tmp 25) 28 rfl 35 i1 2 Try.underlying28 hi' hy1 g 0 k cap (by rfl) ⟨g, 0, none⟩ 0 0 [] (by first | rfl | (simp [Act.eval, Act.put, hz1, hz1', hz2]; done)) rfl (fun j u hu => by simp at hu) (fun u hu => by simp at hu) (by omega) (fun j hj => by simp at hj) ?_)
    all_goals
      have e9 : w.drew.setCells g (k * 2) [] = w.drew.setCells g (k * 2) (cs.drop ((k + 1) * 2)) := by rw [unhide HNI]
      have e8 : Value.slice (some (⟨g, 0, none⟩ : Addr)) k cap = Value.slice (some ⟨g, 0, none⟩) m cap := by rw [unhide HZ3]
      rw [e9, e8]
      clear e8 e9 hz1 hz1' hz2 hcT
      obtain ⟨X, eX⟩ : ∃ z, z = w.drew.setCells g (k * 2) (cs.drop ((k + 1) * 2)) := ⟨_, rfl⟩
      have HX := hide (unhide HOX _ (OwnV.drew (unhide HO)))
      have HK := hide (kept_setCells (g := g) (cs.drop ((k + 1) * 2)) (k * 2) w.drew)
      rw [← eX] at HX HK ⊢
      clear eX
      have hcl := fun c ty => unhide HCL X c ty (unhide HX)
      go_wp2
      go_ret
      exact ⟨rfl, unhide HPO X (unhide HX), (Kept.trans (kept_of_below (Below.refl _ w).drew) (unhide HK)).trans (kept_setCells _ _ _)⟩
  go_region_law (refine step_append_room rfl (.tmp 22) (.tmp 25) 28 rfl 35 i1 2 Try.underlying28 hi' hy1 g 0 k cap (by rfl) ⟨g, (k + 1) * 2, none⟩ (m + 1 - (k + 1)) (cap - (k + 1)) (cs.drop ((k + 1) * 2)) (by first | rfl | (simp [Act.eval, Act.put]; done)) (unhide HLN) (unhide HNW _ (by first | exact unhide HO | exact OwnV.drew (unhide HO))) (unhide H1N) (by omega) (unhide HSP _ (by first | exact unhide HO | exact OwnV.drew (unhide HO))) ?_)
  all_goals
    obtain ⟨X, eX⟩ : ∃ z, z = w.drew.setCells g (k * 2) (cs.drop ((k + 1) * 2)) := ⟨_, rfl⟩
    have HX := hide (unhide HOX _ (OwnV.drew (unhide HO)))
    have HK := hide (kept_setCells (g := g) (cs.drop ((k + 1) * 2)) (k * 2) w.drew)
    rw [← eX] at HX HK ⊢
    clear eX
    have hcl := fun c ty => unhide HCL X c ty (unhide HX)
    go_wp2
    go_ret
    exact ⟨rfl, unhide HPO X (unhide HX), (Kept.trans (kept_of_below (Below.refl _ w).drew) (unhide HK)).trans (kept_setCells _ _ _)⟩

end Go.Proofs.Ytmpicamenjnkkaa

/- slices.Delete of one element at []int, in place: DelA's proof with one cell each. -/
namespace Go.Proofs.Ytmpicamenjnkkaa
open Go.RowKit

theorem Try.infoIntD : (Try.prog.info? 3).map (fun i => (i.zero, i.size, i.bytes)) = some (some (.int .i64 0), 1, 8) := by kernel_rfl
set_option maxRecDepth 100000 in
theorem Try.zeroIntD (w : World) : (zeroValue 3).run Try.prog w = .ok (.int .i64 0) w := by
  obtain ⟨i0, hi, hz0, -, -⟩ := info_parts Try.infoIntD
  first | simp [zeroValue, typeInfo, hi, hz0, go_sem] | kernel_rfl

set_option maxRecDepth 100000 in
set_option maxHeartbeats 4000000 in
theorem delInt_any (g m cap k : Nat) (cs : List Value) (w : World) (hO : OwnV w g cs) (hl : cs.length = m + 1) (h1 : ∀ v ∈ cs, v.oneCell' = true) (hk : k ≤ m) (hn : m ≤ 60) (hcap : m + 1 ≤ cap) :
    Calls Try.prog 49 #[.slice (some ⟨g, 0, none⟩) (m + 1) cap, .int .i64 (k : Int), .int .i64 ((k : Int) + 1)] w fun e w' => e = .returned (.slice (some ⟨g, 0, none⟩) m cap) ∧ OwnV w' g (cs.take k ++ cs.drop (k + 1)) ∧ Kept (fun b => b = g) w w' := by
  have a1 : (k : Int) + 1 ≤ ((m + 1 : Nat) : Int) := by omega
  have a1' : (k : Int) ≤ m := by omega
  have a2 : ((m + 1 : Nat) : Int) ≤ cap := by omega
  have a2' : (m : Int) + 1 ≤ cap := by omega
  have a4 : k ≤ cap := by omega
  have a5 : k + 1 ≤ m + 1 := by omega
  have a6 : (k : Int) ≤ cap := by omega
  have a7 : k + 1 ≤ cap := by omega
  have a8 : ((k : Int) + 1).toNat = k + 1 := by omega
  have a9 : (0 : Int) ≤ (k : Int) + 1 := by omega
  have a3 : ((k : Int) == (k : Int) + 1) = false := by simp; omega
  have b1 : k + (m - k) = m := by omega
  have b2 : k + (m + 1 - (k + 1)) = m := by omega
  have b3 : ¬ cap = m := by omega
  have b4 : m ≤ cap := by omega
  have b5 : (m : Int) ≤ cap := by omega
  have b6 : m + 1 - m = 1 := by omega
  obtain ⟨i1, hi', hy0, hy1, hy2⟩ := info_parts Try.infoIntD
  have HLN : Hid ((cs.drop (k + 1)).length = (m + 1 - (k + 1)) * 1) := by show _ = _; rw [List.length_drop, hl]; omega
  have HLE : Hid (cs.take k ++ cs.drop (k + 1) ++ cs.drop (k + (cs.drop (k + 1)).length) = (cs.take k ++ cs.drop (k + 1)) ++ cs.drop m) := by
    show _ = _
    rw [unhide HLN, show k + (m + 1 - (k + 1)) * 1 = m by omega]
  have HOX : Hid (∀ W : World, OwnV W g cs → OwnV (W.setCells g k (cs.drop (k + 1))) g ((cs.take k ++ cs.drop (k + 1)) ++ cs.drop m)) := fun W hW => by
    have h := own_setCells (g := g) (cs.drop (k + 1)) k cs W hW (by rw [unhide HLN, hl]; omega)
    rw [unhide HLE] at h
    exact h
  have HNW : Hid (∀ W : World, OwnV W g cs → ∀ j u, (cs.drop (k + 1))[j]? = some u → W.cell? ((⟨g, k + 1, none⟩ : Addr).add j) = some u) := fun W hW j u hu => by
    rw [Go.WideShapes.add_plain]
    rw [List.getElem?_drop] at hu
    exact hW.cell hu
  have H1N : Hid (∀ u ∈ cs.drop (k + 1), u.oneCell' = true) := fun u hu => h1 u (List.mem_of_mem_drop hu)
  have HSP : Hid (∀ W : World, OwnV W g cs → ∀ j, j < (cs.drop (k + 1)).length → (W.cell? ⟨g, 0 + k * 1 + j, none⟩).isSome = true ∧ W.frozen? ⟨g, 0 + k * 1 + j, none⟩ = false) := fun W hW j hj => by
    rw [unhide HLN] at hj
    have hlt : 0 + k * 1 + j < cs.length := by rw [hl]; omega
    exact ⟨by rw [hW.cell (List.getElem?_eq_getElem hlt)]; rfl, hW.frozen _⟩
  have HCL : Hid (∀ (W : World) (c ty : Nat), OwnV W g ((cs.take k ++ cs.drop (k + 1)) ++ cs.drop m) → (Builtin.clear_ #[24] ty #[.slice (some ⟨g, m, none⟩) 1 c]).run Try.prog W = .ok (.tuple #[]) (W.setCells g m (Value.int .i64 0).cells.toList)) := fun W c ty hW => by
    have hlt : ∀ j, j < 1 → m + j < ((cs.take k ++ cs.drop (k + 1)) ++ cs.drop m).length := fun j hj => by
      rw [List.length_append, List.length_append, List.length_take, unhide HLN, List.length_drop, hl]
      omega
    exact run_clear_one W _ 3 ty _ Try.underlying24 Try.zeroIntD (by intro v hv; simp [Value.cells] at hv; rcases hv with rfl; rfl) g m c (fun j hj => by rw [hW.cell (List.getElem?_eq_getElem (hlt j hj))]; rfl) (fun j hj => hW.frozen _)
  have HPO : Hid (∀ W : World, OwnV W g ((cs.take k ++ cs.drop (k + 1)) ++ cs.drop m) → OwnV (W.setCells g m (Value.int .i64 0).cells.toList) g (cs.take k ++ cs.drop (k + 1))) := fun W hW => by
    have hla : (cs.take k ++ cs.drop (k + 1)).length = m := by rw [List.length_append, List.length_take, unhide HLN, hl]; omega
    have h := own_setCells (g := g) (Value.int .i64 0).cells.toList m _ W hW (by rw [List.length_append, hla, List.length_drop, hl]; show m + 1 ≤ _; omega)
    rw [List.take_append_of_le_length (by rw [hla]; exact Nat.le_refl _), List.take_of_length_le (by rw [hla]; exact Nat.le_refl _), List.append_assoc] at h
    exact h.pre
  have HO := hide hO
  obtain ⟨ZC, eZC⟩ : ∃ z, z = (Value.int .i64 0).cells.toList := ⟨_, rfl⟩
  rw [← eZC] at HCL HPO
  clear hO h1 hl eZC
  go_enter Try.func49, Try.ntmps49
  go_wp2
  by_cases hck : cap = k + 1
  · have HNI : Hid (cs.drop (k + 1) = []) := by show _ = _; rw [← List.length_eq_zero_iff, unhide HLN]; omega
    have hcT : (cap = k + 1) = True := eq_true hck
    have hz1 : m + 1 - (k + 1) = 0 := by omega
    have hz1' : m - k = 0 := by omega
    have hz2 : cap - (k + 1) = 0 := by omega
    have hz3 : k = m := by omega
    have HZ3 := hide hz3
    clear hck hz3
    go_region_law (refine step_append_room rfl (.tmp 22) (.tmp 25) 24 rfl 3 i1 1 Try.underlying24 hi' hy1 g 0 k cap (by rfl) ⟨g, 0, none⟩ 0 0 [] (by first | rfl | (simp [Act.eval, Act.put, hz1, hz1', hz2]; done)) rfl (fun j u hu => by simp at hu) (fun u hu => by simp at hu) (by omega) (fun j hj => by simp at hj) ?_)
    all_goals
      have e9 : w.drew.setCells g k [] = w.drew.setCells g k (cs.drop (k + 1)) := by rw [unhide HNI]
      have e8 : Value.slice (some (⟨g, 0, none⟩ : Addr)) k cap = Value.slice (some ⟨g, 0, none⟩) m cap := by rw [unhide HZ3]
      rw [e9, e8]
      clear e8 e9 hz1 hz1' hz2 hcT
      obtain ⟨X, eX⟩ : ∃ z, z = w.drew.setCells g k (cs.drop (k + 1)) := ⟨_, rfl⟩
      have HX := hide (unhide HOX _ (OwnV.drew (unhide HO)))
      have HK := hide (kept_setCells (g := g) (cs.drop (k + 1)) k w.drew)
      rw [← eX] at HX HK ⊢
      clear eX
      have hcl := fun c ty => unhide HCL X c ty (unhide HX)
      go_wp2
      go_ret
      exact ⟨rfl, unhide HPO X (unhide HX), (Kept.trans (kept_of_below (Below.refl _ w).drew) (unhide HK)).trans (kept_setCells _ _ _)⟩
  go_region_law (refine step_append_room rfl (.tmp 22) (.tmp 25) 24 rfl 3 i1 1 Try.underlying24 hi' hy1 g 0 k cap (by rfl) ⟨g, k + 1, none⟩ (m + 1 - (k + 1)) (cap - (k + 1)) (cs.drop (k + 1)) (by first | rfl | (simp [Act.eval, Act.put]; done)) (unhide HLN) (unhide HNW _ (by first | exact unhide HO | exact OwnV.drew (unhide HO))) (unhide H1N) (by omega) (unhide HSP _ (by first | exact unhide HO | exact OwnV.drew (unhide HO))) ?_)
  all_goals
    obtain ⟨X, eX⟩ : ∃ z, z = w.drew.setCells g k (cs.drop (k + 1)) := ⟨_, rfl⟩
    have HX := hide (unhide HOX _ (OwnV.drew (unhide HO)))
    have HK := hide (kept_setCells (g := g) (cs.drop (k + 1)) k w.drew)
    rw [← eX] at HX HK ⊢
    clear eX
    have hcl := fun c ty => unhide HCL X c ty (unhide HX)
    go_wp2
    go_ret
    exact ⟨rfl, unhide HPO X (unhide HX), (Kept.trans (kept_of_below (Below.refl _ w).drew) (unhide HK)).trans (kept_setCells _ _ _)⟩

end Go.Proofs.Ytmpicamenjnkkaa
