/- Laid together out of: ChS. -/
import Derived.Test.YtmpicamenjnkkaaPj
import Derived.Test.YtmpicamenjnkkaaPn

/- The contract of the specification's Apply6. -/
namespace Go.Proofs.Ytmpicamenjnkkaa
open Go.RowKit

theorem B3.put1 {w W : World} {a b c : List Value} (h : B3 w W a b c) (i : Nat) (u : Value) (hi : i < a.length) : B3 w (W.setCell ⟨w.heap.size, i, none⟩ u) (a.set i u) b c :=
  ⟨h.o1.set i u hi, h.o2.other (a := ⟨w.heap.size, i, none⟩) (by show w.heap.size + 1 ≠ w.heap.size; omega) u, h.o3.other (a := ⟨w.heap.size, i, none⟩) (by show w.heap.size + 1 + 1 ≠ w.heap.size; omega) u, h.below.setCell (p := ⟨w.heap.size, i, none⟩) (Nat.le_refl _) u⟩
theorem OwnCh.keptAt {T : Nat → Prop} {B U : Nat} {w w' : World} {da fa : Option Addr} {dk fk : Nat} {D : List Int} {F : List FeatureT} {fs : List Value} (h : OwnCh B U w da dk fa fk D F fs) (hk : Kept T w w') (h1 : ∀ g, da = some ⟨g, 0, none⟩ → ¬ T g) (h2 : ∀ g, fa = some ⟨g, 0, none⟩ → ¬ T g) : OwnCh B U w' da dk fa fk D F fs := by
  obtain ⟨h0, g1, g2, a1, a2, a3, a4, a5, a6, a7, a8⟩ := h
  exact ⟨h0, g1, g2, a1, a2, a3, a4, a5, Nat.le_trans a6 hk.size, fun hne => ⟨(a7 hne).1, (a7 hne).2.kept hk (h1 g1 (a7 hne).1)⟩, fun hne => ⟨(a8 hne).1, (a8 hne).2.kept hk (h2 g2 (a8 hne).1)⟩⟩
theorem own_five {w : World} {g : Nat} {a b c d e : Value} (h : OwnV w g [a, b, c, d, e]) (a' b' c' d' e' : Value) : OwnV (((((w.setCell ⟨g, 0, none⟩ a').setCell ⟨g, 1, none⟩ b').setCell ⟨g, 2, none⟩ c').setCell ⟨g, 3, none⟩ d').setCell ⟨g, 4, none⟩ e') g [a', b', c', d', e'] :=
  ((((h.set 0 a' (by simp)).set 1 b' (by simp)).set 2 c' (by simp)).set 3 d' (by simp)).set 4 e' (by simp)
theorem kept_five {w0 w : World} {T : Nat → Prop} {g : Nat} (h : Kept T w0 w) (hg : T g) (a' b' c' d' e' : Value) : Kept T w0 (((((w.setCell ⟨g, 0, none⟩ a').setCell ⟨g, 1, none⟩ b').setCell ⟨g, 2, none⟩ c').setCell ⟨g, 3, none⟩ d').setCell ⟨g, 4, none⟩ e') :=
  ((((h.setCell (p := ⟨g, 0, none⟩) hg a').setCell (p := ⟨g, 1, none⟩) hg b').setCell (p := ⟨g, 2, none⟩) hg c').setCell (p := ⟨g, 3, none⟩) hg d').setCell (p := ⟨g, 4, none⟩) hg e'
/-- The next chart, while all notes so far are done. -/
structure NxOk (B : Nat) (W : World) (gN m1 l1 gf fk : Nat) (c : Ch) (U : List NoteT) (k : Nat) (d : Ch) : Prop where
  nk : NK c U k d
  box : OwnV W gN [.int .i64 d.wd, .int .i64 d.hg, .slice (some ⟨m1, 0, none⟩) d.D.length l1, .slice (some ⟨gf, 0, none⟩) d.F.length fk, .int .i64 d.ed]
  own : OwnCh B W.heap.size W (some ⟨m1, 0, none⟩) l1 (some ⟨gf, 0, none⟩) fk d.D d.F (recCells 5 eFeature d.F)
  ne1 : m1 ≠ gN
  ne2 : gf ≠ gN
theorem OwnCh.set1 {w w' : World} {da fa : Option Addr} {dk fk : Nat} {D : List Int} {F : List FeatureT} {fs : List Value} (h : OwnCh (w.heap.size + 3) w'.heap.size w' da dk fa fk D F fs) (i : Nat) (u : Value) : OwnCh (w.heap.size + 3) (w'.setCell ⟨w.heap.size, i, none⟩ u).heap.size (w'.setCell ⟨w.heap.size, i, none⟩ u) da dk fa fk D F fs := by
  have e : (w'.setCell ⟨w.heap.size, i, none⟩ u).heap.size = w'.heap.size := by simp [World.setCell]
  rw [e]
  exact h.kept (T := fun b => b = w.heap.size) (Kept.setCell (T := fun b => b = w.heap.size) (Kept.refl _ w') (p := ⟨w.heap.size, i, none⟩) rfl u) (fun b hb _ e => by omega)

set_option maxRecDepth 10000 in
set_option maxHeartbeats 8000000 in
theorem specApply6_any (c : Ch) (ed : Int) (U : List NoteT) (dao : Option Addr) (dn dc : Nat) (fao : Option Addr) (fn fc : Nat) (nao : Option Addr) (nn nc : Nat) (w : World) (hD : IntsIn w (.slice dao dn dc) c.D) (hF : RFeature w (.slice fao fn fc) c.F) (hN : RNote w (.slice nao nn nc) U) (hsD : c.D.length ≤ 1048576) (hsF : c.F.length ≤ 1048576) (hsU : U.length ≤ 1048576) :
    Calls Try.prog 22 #[vChart c.wd c.hg (.slice dao dn dc) (.slice fao fn fc) c.ed, vUpdate ed (.slice nao nn nc)] w fun e w' => ∃ da dk fa fk, e = .returned (.tuple #[vChart (applyOf c (ed, U)).1.wd (applyOf c (ed, U)).1.hg (.slice da (applyOf c (ed, U)).1.D.length dk) (.slice fa (applyOf c (ed, U)).1.F.length fk) (applyOf c (ed, U)).1.ed, .int .i64 (applyOf c (ed, U)).2]) ∧ OwnCh w.heap.size w'.heap.size w' da dk fa fk (applyOf c (ed, U)).1.D (applyOf c (ed, U)).1.F (recCells 5 eFeature (applyOf c (ed, U)).1.F) ∧ Below w.heap.size w w' := by
  obtain rfl := recs_len_eq hN
  obtain rfl := ints_len_eq hD
  obtain rfl := recs_len_eq hF
  obtain ⟨⟨A, code⟩, eA⟩ : ∃ z, z = applyOf c (ed, U) := ⟨_, rfl⟩
  rw [← eA]
  dsimp only
  have EA := hide eA
  clear eA
  have HB := hide (b3_new w #[.int .i64 c.wd, .int .i64 c.hg, .slice dao c.D.length dc, .slice fao c.F.length fc, .int .i64 c.ed] #[.int .i64 ed, .slice nao U.length nc] #[.int .i64 0, .int .i64 0, .slice none 0 0, .slice none 0 0, .int .i64 0] 27 35 27)
  have HC1 := hide (l6Copy_own c.wd c.hg c.ed dao c.D.length dc fao c.F.length fc c.D c.F _ (hD.below (unhide HB).below) (hF.below (unhide HB).below) hsD hsF)
  have HN := hide hN
  obtain ⟨rc, erc⟩ : ∃ r : Int, r = (if (!chartB c || !inB U.length 1 20) = true then 1 else if ed ≤ c.ed then 2 else if c.ed + 1 < ed then 3 else if 1000000 < ed then 4 else 0) := ⟨_, rfl⟩
  have ERC := hide erc
  clear hD hF hN erc
  unfold vChart vUpdate at *
  go_enter Try.func22, Try.ntmps22
  go_wp2_with fail
  refine (unhide HC1).mono ?_
  rintro e w1 ⟨g1, k1, g2, k2, rfl, hO, hb, -, -⟩
  have hsz := (unhide HB).o3.lt
  replace HB := hide ((unhide HB).step hb)
  have HO := hide (own_at (w := w) hO (by omega))
  clear hb hO HC1 hsz
  have c0 := (unhide HB).o1.cell (i := 0) rfl
  have c1 := (unhide HB).o1.cell (i := 1) rfl
  have c2 := (unhide HB).o1.cell (i := 2) rfl
  have c3 := (unhide HB).o1.cell (i := 3) rfl
  have c4 := (unhide HB).o1.cell (i := 4) rfl
  have cf := (unhide HB).o1.frozen
  go_upto_region 2 with (fail)
  replace HB := hide ((((((unhide HB).put1 0 (.int .i64 c.wd) (by simp)).put1 1 (.int .i64 c.hg) (by simp)).put1 2 (.slice (some ⟨g1, 0, none⟩) c.D.length k1) (by simp)).put1 3 (.slice (some ⟨g2, 0, none⟩) c.F.length k2) (by simp)).put1 4 (.int .i64 c.ed) (by simp))
  replace HO := hide (OwnCh.set1 (OwnCh.set1 (OwnCh.set1 (OwnCh.set1 (OwnCh.set1 (unhide HO) 0 (.int .i64 c.wd)) 1 (.int .i64 c.hg)) 2 (.slice (some ⟨g1, 0, none⟩) c.D.length k1)) 3 (.slice (some ⟨g2, 0, none⟩) c.F.length k2)) 4 (.int .i64 c.ed))
  obtain ⟨X, eX⟩ : ∃ z, z = (((((w1.setCell ⟨w.heap.size, 0, none⟩ (.int .i64 c.wd)).setCell ⟨w.heap.size, 1, none⟩ (.int .i64 c.hg)).setCell ⟨w.heap.size, 2, none⟩ (.slice (some ⟨g1, 0, none⟩) c.D.length k1)).setCell ⟨w.heap.size, 3, none⟩ (.slice (some ⟨g2, 0, none⟩) c.F.length k2)).setCell ⟨w.heap.size, 4, none⟩ (.int .i64 c.ed)) := ⟨_, rfl⟩
  rw [← eX] at HB HO ⊢
  clear eX c0 c1 c2 c3 c4 cf
  have c0 := (unhide HB).o1.cell (i := 0) rfl
  have c1 := (unhide HB).o1.cell (i := 1) rfl
  have c2 := (unhide HB).o1.cell (i := 2) rfl
  have c3 := (unhide HB).o1.cell (i := 3) rfl
  have c4 := (unhide HB).o1.cell (i := 4) rfl
  have u0 := (unhide HB).o2.cell (i := 0) rfl
  have u1 := (unhide HB).o2.cell (i := 1) rfl
  have HCO := hide (specChartOk_any c (some ⟨g1, 0, none⟩) c.D.length k1 (some ⟨g2, 0, none⟩) c.F.length k2 X (unhide HO).ints (unhide HO).feats)
  unfold vChart at HCO
  go_wp2_with fail
  refine (unhide HCO).mono ?_
  rintro e w2 ⟨rfl, hb⟩
  replace HB := hide ((unhide HB).step hb)
  replace HO := hide (OwnCh.whole ((unhide HO).below hb))
  clear hb HCO c0 c1 c2 c3 c4 u0 u1
  have c0 := (unhide HB).o1.cell (i := 0) rfl
  have c1 := (unhide HB).o1.cell (i := 1) rfl
  have c2 := (unhide HB).o1.cell (i := 2) rfl
  have c3 := (unhide HB).o1.cell (i := 3) rfl
  have c4 := (unhide HB).o1.cell (i := 4) rfl
  have u0 := (unhide HB).o2.cell (i := 0) rfl
  have u1 := (unhide HB).o2.cell (i := 1) rfl
  cases hok : chartB c with
  | false =>
    have erc : rc = 1 := by rw [unhide ERC, hok]; rfl
    have EZ := apply_ready (U := U) (unhide ERC) (by rw [erc]; decide)
    rw [← unhide EA, erc] at EZ
    simp only [Prod.mk.injEq] at EZ
    obtain ⟨rfl, rfl⟩ := (⟨EZ.1.symm, EZ.2.symm⟩ : c = A ∧ (1 : Int) = code)
    clear EA ERC EZ
    have hx1 : ¬ w.heap.size = w.heap.size + 1 + 1 := by omega
    have hx2 : ¬ w.heap.size + 1 + 1 = w.heap.size := by omega
    have d0 := (unhide HB).o3.cell (i := 0) rfl
    have d1 := (unhide HB).o3.cell (i := 1) rfl
    have d2 := (unhide HB).o3.cell (i := 2) rfl
    have d3 := (unhide HB).o3.cell (i := 3) rfl
    have d4 := (unhide HB).o3.cell (i := 4) rfl
    have df := (unhide HB).o3.frozen
    have HB8 := hide ((((((unhide HB).put3 0 (.int .i64 c.wd) (by simp)).put3 1 (.int .i64 c.hg) (by simp)).put3 2 (.slice (some ⟨g1, 0, none⟩) c.D.length k1) (by simp)).put3 3 (.slice (some ⟨g2, 0, none⟩) c.F.length k2) (by simp)).put3 4 (.int .i64 c.ed) (by simp))
    have HO8 := hide (OwnCh.set5 (OwnCh.set5 (OwnCh.set5 (OwnCh.set5 (OwnCh.set5 (unhide HO) 0 (.int .i64 c.wd)) 1 (.int .i64 c.hg)) 2 (.slice (some ⟨g1, 0, none⟩) c.D.length k1)) 3 (.slice (some ⟨g2, 0, none⟩) c.F.length k2)) 4 (.int .i64 c.ed))
    clear HB HO
    go_wp2_with (go_at_call 56; refine (l1In_any _ _ _ _).mono ?_; rintro e w' ⟨rfl, h9⟩; have h8 := h9.symm; subst h8; clear h9)
    have q0 := (unhide HB8).o3.cell (i := 0) rfl
    have q1 := (unhide HB8).o3.cell (i := 1) rfl
    have q2 := (unhide HB8).o3.cell (i := 2) rfl
    have q3 := (unhide HB8).o3.cell (i := 3) rfl
    have q4 := (unhide HB8).o3.cell (i := 4) rfl
    refine bodyPost_ret (v := .tuple #[.agg #[.int .i64 c.wd, .int .i64 c.hg, .slice (some ⟨g1, 0, none⟩) c.D.length k1, .slice (some ⟨g2, 0, none⟩) c.F.length k2, .int .i64 c.ed], .int .i64 1]) (by simp [results, Try.results22, go_sem, q0, q1, q2, q3, q4]) rfl ?_
    refine ⟨some ⟨g1, 0, none⟩, k1, some ⟨g2, 0, none⟩, k2, rfl, ?_, ?_⟩
    · have hO := unhide HO8
      refine OwnCh.lower hO ?_
      exact Nat.le_add_right _ _
    · exact (unhide HB8).below
  | true =>
  obtain ⟨hw0, hw1, hh0, hh1, hlen, hF30, hed0, hed1⟩ := chartB_head hok
  have i1 : IntKind.i64.wrap (c.ed + 1) = c.ed + 1 := by rw [IntKind.wrap_i64]; omega
  cases hin : inB U.length 1 20 with
  | false =>
    have erc : rc = 1 := by rw [unhide ERC, hok, hin]; rfl
    have EZ := apply_ready (U := U) (unhide ERC) (by rw [erc]; decide)
    rw [← unhide EA, erc] at EZ
    simp only [Prod.mk.injEq] at EZ
    obtain ⟨rfl, rfl⟩ := (⟨EZ.1.symm, EZ.2.symm⟩ : c = A ∧ (1 : Int) = code)
    clear EA ERC EZ
    have hx1 : ¬ w.heap.size = w.heap.size + 1 + 1 := by omega
    have hx2 : ¬ w.heap.size + 1 + 1 = w.heap.size := by omega
    have d0 := (unhide HB).o3.cell (i := 0) rfl
    have d1 := (unhide HB).o3.cell (i := 1) rfl
    have d2 := (unhide HB).o3.cell (i := 2) rfl
    have d3 := (unhide HB).o3.cell (i := 3) rfl
    have d4 := (unhide HB).o3.cell (i := 4) rfl
    have df := (unhide HB).o3.frozen
    have HB8 := hide ((((((unhide HB).put3 0 (.int .i64 c.wd) (by simp)).put3 1 (.int .i64 c.hg) (by simp)).put3 2 (.slice (some ⟨g1, 0, none⟩) c.D.length k1) (by simp)).put3 3 (.slice (some ⟨g2, 0, none⟩) c.F.length k2) (by simp)).put3 4 (.int .i64 c.ed) (by simp))
    have HO8 := hide (OwnCh.set5 (OwnCh.set5 (OwnCh.set5 (OwnCh.set5 (OwnCh.set5 (unhide HO) 0 (.int .i64 c.wd)) 1 (.int .i64 c.hg)) 2 (.slice (some ⟨g1, 0, none⟩) c.D.length k1)) 3 (.slice (some ⟨g2, 0, none⟩) c.F.length k2)) 4 (.int .i64 c.ed))
    clear HB HO
    go_wp2_with (go_at_call 56; refine (l1In_any _ _ _ _).mono ?_; rintro e w' ⟨rfl, h9⟩; have h8 := h9.symm; subst h8; clear h9)
    have q0 := (unhide HB8).o3.cell (i := 0) rfl
    have q1 := (unhide HB8).o3.cell (i := 1) rfl
    have q2 := (unhide HB8).o3.cell (i := 2) rfl
    have q3 := (unhide HB8).o3.cell (i := 3) rfl
    have q4 := (unhide HB8).o3.cell (i := 4) rfl
    refine bodyPost_ret (v := .tuple #[.agg #[.int .i64 c.wd, .int .i64 c.hg, .slice (some ⟨g1, 0, none⟩) c.D.length k1, .slice (some ⟨g2, 0, none⟩) c.F.length k2, .int .i64 c.ed], .int .i64 1]) (by simp [results, Try.results22, go_sem, q0, q1, q2, q3, q4]) rfl ?_
    refine ⟨some ⟨g1, 0, none⟩, k1, some ⟨g2, 0, none⟩, k2, rfl, ?_, ?_⟩
    · have hO := unhide HO8
      refine OwnCh.lower hO ?_
      exact Nat.le_add_right _ _
    · exact (unhide HB8).below
  | true =>
  have e0 : rc = (if ed ≤ c.ed then 2 else if c.ed + 1 < ed then 3 else if 1000000 < ed then 4 else 0) := by rw [unhide ERC, hok, hin]; rfl
  have E0 := hide e0
  clear e0
  by_cases h2 : ed ≤ c.ed
  · have erc : rc = 2 := by rw [unhide E0, if_pos h2]
    have EZ := apply_ready (U := U) (unhide ERC) (by rw [erc]; decide)
    rw [← unhide EA, erc] at EZ
    simp only [Prod.mk.injEq] at EZ
    obtain ⟨rfl, rfl⟩ := (⟨EZ.1.symm, EZ.2.symm⟩ : c = A ∧ (2 : Int) = code)
    clear EA ERC EZ
    have hx1 : ¬ w.heap.size = w.heap.size + 1 + 1 := by omega
    have hx2 : ¬ w.heap.size + 1 + 1 = w.heap.size := by omega
    have d0 := (unhide HB).o3.cell (i := 0) rfl
    have d1 := (unhide HB).o3.cell (i := 1) rfl
    have d2 := (unhide HB).o3.cell (i := 2) rfl
    have d3 := (unhide HB).o3.cell (i := 3) rfl
    have d4 := (unhide HB).o3.cell (i := 4) rfl
    have df := (unhide HB).o3.frozen
    have HB8 := hide ((((((unhide HB).put3 0 (.int .i64 c.wd) (by simp)).put3 1 (.int .i64 c.hg) (by simp)).put3 2 (.slice (some ⟨g1, 0, none⟩) c.D.length k1) (by simp)).put3 3 (.slice (some ⟨g2, 0, none⟩) c.F.length k2) (by simp)).put3 4 (.int .i64 c.ed) (by simp))
    have HO8 := hide (OwnCh.set5 (OwnCh.set5 (OwnCh.set5 (OwnCh.set5 (OwnCh.set5 (unhide HO) 0 (.int .i64 c.wd)) 1 (.int .i64 c.hg)) 2 (.slice (some ⟨g1, 0, none⟩) c.D.length k1)) 3 (.slice (some ⟨g2, 0, none⟩) c.F.length k2)) 4 (.int .i64 c.ed))
    clear HB HO
    go_wp2_with (go_at_call 56; refine (l1In_any _ _ _ _).mono ?_; rintro e w' ⟨rfl, h9⟩; have h8 := h9.symm; subst h8; clear h9)
    have q0 := (unhide HB8).o3.cell (i := 0) rfl
    have q1 := (unhide HB8).o3.cell (i := 1) rfl
    have q2 := (unhide HB8).o3.cell (i := 2) rfl
    have q3 := (unhide HB8).o3.cell (i := 3) rfl
    have q4 := (unhide HB8).o3.cell (i := 4) rfl
    refine bodyPost_ret (v := .tuple #[.agg #[.int .i64 c.wd, .int .i64 c.hg, .slice (some ⟨g1, 0, none⟩) c.D.length k1, .slice (some ⟨g2, 0, none⟩) c.F.length k2, .int .i64 c.ed], .int .i64 2]) (by simp [results, Try.results22, go_sem, q0, q1, q2, q3, q4]) rfl ?_
    refine ⟨some ⟨g1, 0, none⟩, k1, some ⟨g2, 0, none⟩, k2, rfl, ?_, ?_⟩
    · have hO := unhide HO8
      refine OwnCh.lower hO ?_
      exact Nat.le_add_right _ _
    · exact (unhide HB8).below
  by_cases h3 : c.ed + 1 < ed
  · have erc : rc = 3 := by rw [unhide E0, if_neg h2, if_pos h3]
    have EZ := apply_ready (U := U) (unhide ERC) (by rw [erc]; decide)
    rw [← unhide EA, erc] at EZ
    simp only [Prod.mk.injEq] at EZ
    obtain ⟨rfl, rfl⟩ := (⟨EZ.1.symm, EZ.2.symm⟩ : c = A ∧ (3 : Int) = code)
    clear EA ERC EZ
    have hx1 : ¬ w.heap.size = w.heap.size + 1 + 1 := by omega
    have hx2 : ¬ w.heap.size + 1 + 1 = w.heap.size := by omega
    have d0 := (unhide HB).o3.cell (i := 0) rfl
    have d1 := (unhide HB).o3.cell (i := 1) rfl
    have d2 := (unhide HB).o3.cell (i := 2) rfl
    have d3 := (unhide HB).o3.cell (i := 3) rfl
    have d4 := (unhide HB).o3.cell (i := 4) rfl
    have df := (unhide HB).o3.frozen
    have HB8 := hide ((((((unhide HB).put3 0 (.int .i64 c.wd) (by simp)).put3 1 (.int .i64 c.hg) (by simp)).put3 2 (.slice (some ⟨g1, 0, none⟩) c.D.length k1) (by simp)).put3 3 (.slice (some ⟨g2, 0, none⟩) c.F.length k2) (by simp)).put3 4 (.int .i64 c.ed) (by simp))
    have HO8 := hide (OwnCh.set5 (OwnCh.set5 (OwnCh.set5 (OwnCh.set5 (OwnCh.set5 (unhide HO) 0 (.int .i64 c.wd)) 1 (.int .i64 c.hg)) 2 (.slice (some ⟨g1, 0, none⟩) c.D.length k1)) 3 (.slice (some ⟨g2, 0, none⟩) c.F.length k2)) 4 (.int .i64 c.ed))
    clear HB HO
    go_wp2_with (go_at_call 56; refine (l1In_any _ _ _ _).mono ?_; rintro e w' ⟨rfl, h9⟩; have h8 := h9.symm; subst h8; clear h9)
    have q0 := (unhide HB8).o3.cell (i := 0) rfl
    have q1 := (unhide HB8).o3.cell (i := 1) rfl
    have q2 := (unhide HB8).o3.cell (i := 2) rfl
    have q3 := (unhide HB8).o3.cell (i := 3) rfl
    have q4 := (unhide HB8).o3.cell (i := 4) rfl
    refine bodyPost_ret (v := .tuple #[.agg #[.int .i64 c.wd, .int .i64 c.hg, .slice (some ⟨g1, 0, none⟩) c.D.length k1, .slice (some ⟨g2, 0, none⟩) c.F.length k2, .int .i64 c.ed], .int .i64 3]) (by simp [results, Try.results22, go_sem, q0, q1, q2, q3, q4]) rfl ?_
    refine ⟨some ⟨g1, 0, none⟩, k1, some ⟨g2, 0, none⟩, k2, rfl, ?_, ?_⟩
    · have hO := unhide HO8
      refine OwnCh.lower hO ?_
      exact Nat.le_add_right _ _
    · exact (unhide HB8).below
  have hU20 : U.length ≤ 20 := by have := inB_true hin; omega
  have HC2 := hide fun V (h1 : IntsIn V (.slice (some ⟨g1, 0, none⟩) c.D.length k1) c.D) (h2 : RFeature V (.slice (some ⟨g2, 0, none⟩) c.F.length k2) c.F) => l6Copy_own c.wd c.hg c.ed (some ⟨g1, 0, none⟩) c.D.length k1 (some ⟨g2, 0, none⟩) c.F.length k2 c.D c.F V h1 h2 hsD hsF
  unfold vChart at HC2
  go_wp2_with (go_at_call 56; refine (l1In_any _ _ _ _).mono ?_; rintro e w' ⟨rfl, h9⟩; have h8 := h9.symm; subst h8; clear h9)
  refine (unhide HC2 _ (unhide HO).ints (unhide HO).feats).mono ?_
  rintro e w3 ⟨m1, l1, m2, l2, rfl, hO3, hb, hlm1, hlm2⟩
  have A3 := Below.alloc1 w3 (.cells #[.int .i64 c.wd, .int .i64 c.hg, .slice (some ⟨m1, 0, none⟩) c.D.length l1, .slice (some ⟨m2, 0, none⟩) c.F.length l2, .int .i64 c.ed] 27)
  have HN0 : Hid (NxOk w2.heap.size (w3.alloc (.cells #[.int .i64 c.wd, .int .i64 c.hg, .slice (some ⟨m1, 0, none⟩) c.D.length l1, .slice (some ⟨m2, 0, none⟩) c.F.length l2, .int .i64 c.ed] 27)) w3.heap.size m1 l1 m2 l2 c U 0 c) :=
    ⟨nk_zero hok U, ownV_alloc w3 #[.int .i64 c.wd, .int .i64 c.hg, .slice (some ⟨m1, 0, none⟩) c.D.length l1, .slice (some ⟨m2, 0, none⟩) c.F.length l2, .int .i64 c.ed] 27, OwnCh.whole (hO3.below A3), by omega, by omega⟩
  have HBL0 := hide (Below.step hb A3)
  have hzz := hb.size
  obtain ⟨gN, egN⟩ : ∃ z, z = w3.heap.size := ⟨_, rfl⟩
  have hgN : w2.heap.size ≤ gN := by omega
  have hgL : gN < (w3.alloc (.cells #[.int .i64 c.wd, .int .i64 c.hg, .slice (some ⟨m1, 0, none⟩) c.D.length l1, .slice (some ⟨m2, 0, none⟩) c.F.length l2, .int .i64 c.ed] 27)).heap.size := by rw [World.size_alloc]; omega
  have u0' := ((unhide HB).step (unhide HBL0)).o2.cell (i := 0) rfl
  clear hb A3 hO3 HC2 c0 c1 c2 c3 c4 u0 u1
  have HX4 : Hid (decide (ed ≤ 1000000) = false → c = A ∧ (4 : Int) = code) := fun hf => by
    have h9 : ¬ ed ≤ 1000000 := of_decide_eq_false hf
    have erc : rc = 4 := by rw [unhide E0, if_neg (show ¬ ed ≤ c.ed by omega), if_neg (show ¬ c.ed + 1 < ed by omega), if_pos (by omega)]
    have EZ := apply_ready (U := U) (unhide ERC) (by rw [erc]; decide)
    rw [← unhide EA, erc] at EZ
    simp only [Prod.mk.injEq] at EZ
    exact ⟨EZ.1.symm, EZ.2.symm⟩
  have HXG : Hid (ed ≤ 1000000 → (A, code) = if (notesOf U c).2 = true then ({ (notesOf U c).1 with ed := ed }, 0) else (c, 4)) := fun h9 => by
    have erc : rc = 0 := by rw [unhide E0, if_neg (show ¬ ed ≤ c.ed by omega), if_neg (show ¬ c.ed + 1 < ed by omega), if_neg (by omega)]
    rw [unhide EA]
    exact (apply_go (U := U) (erc.symm.trans (unhide ERC))).2.2.2
  go_upto_region 9 with (fail)
  rw [← egN] at HN0 ⊢
  obtain ⟨W0, eW0⟩ : ∃ z, z = w3.alloc (.cells #[.int .i64 c.wd, .int .i64 c.hg, .slice (some ⟨m1, 0, none⟩) c.D.length l1, .slice (some ⟨m2, 0, none⟩) c.F.length l2, .int .i64 c.ed] 27) := ⟨_, rfl⟩
  rw [← eW0] at HN0 HBL0 hgL u0' ⊢
  clear eW0 egN hlm1 hlm2
  go_wp2
  go_loopg [7, 8] U.length (fun g bv iv wr => ∃ (k : Nat) (b : Bool) (gf fk : Nat) (d : Ch), k ≤ U.length ∧ g = U.length - k ∧ iv = .int .i64 (k : Int) ∧ bv = .bool b ∧ Hid (b = true → ed ≤ 1000000 ∧ NxOk w2.heap.size wr gN m1 l1 gf fk c U k d) ∧ Hid (b = false → c = A ∧ (4 : Int) = code) ∧ Hid (Below w2.heap.size w2 wr) ∧ gN < wr.heap.size)
  case atStart => exact ⟨0, _, m2, l2, c, Nat.zero_le _, rfl, rfl, rfl, fun h => ⟨of_decide_eq_true h, unhide HN0⟩, HX4, HBL0, hgL⟩
  case round =>
    clear HN0 HX4 HBL0 hgL u0'
    obtain ⟨k, b, gf, fk, d, hk, rfl, rfl, rfl, HX, HF, HBL, hgl⟩ := hrel
    have HBr := hide ((unhide HB).step (unhide HBL))
    have HOr := hide (OwnCh.whole ((unhide HO).below (unhide HBL)))
    have hw2 := (unhide HB).o3.lt
    have u1 := (unhide HBr).o2.cell (i := 1) rfl
    have u0 := (unhide HBr).o2.cell (i := 0) rfl
    cases b with
    | false =>
      obtain ⟨rfl, rfl⟩ := unhide HF rfl
      have c0 := (unhide HBr).o1.cell (i := 0) rfl
      have c1 := (unhide HBr).o1.cell (i := 1) rfl
      have c2 := (unhide HBr).o1.cell (i := 2) rfl
      have c3 := (unhide HBr).o1.cell (i := 3) rfl
      have c4 := (unhide HBr).o1.cell (i := 4) rfl
      have hx1 : ¬ w.heap.size = w.heap.size + 1 + 1 := by omega
      have hx2 : ¬ w.heap.size + 1 + 1 = w.heap.size := by omega
      have d0 := (unhide HBr).o3.cell (i := 0) rfl
      have d1 := (unhide HBr).o3.cell (i := 1) rfl
      have d2 := (unhide HBr).o3.cell (i := 2) rfl
      have d3 := (unhide HBr).o3.cell (i := 3) rfl
      have d4 := (unhide HBr).o3.cell (i := 4) rfl
      have df := (unhide HBr).o3.frozen
      have HB8 := hide ((((((unhide HBr).put3 0 (.int .i64 c.wd) (by simp)).put3 1 (.int .i64 c.hg) (by simp)).put3 2 (.slice (some ⟨g1, 0, none⟩) c.D.length k1) (by simp)).put3 3 (.slice (some ⟨g2, 0, none⟩) c.F.length k2) (by simp)).put3 4 (.int .i64 c.ed) (by simp))
      have HO8 := hide (OwnCh.set5 (OwnCh.set5 (OwnCh.set5 (OwnCh.set5 (OwnCh.set5 (unhide HOr) 0 (.int .i64 c.wd)) 1 (.int .i64 c.hg)) 2 (.slice (some ⟨g1, 0, none⟩) c.D.length k1)) 3 (.slice (some ⟨g2, 0, none⟩) c.F.length k2)) 4 (.int .i64 c.ed))
      by_cases hkn : k < U.length
      · have hki : (k : Int) < U.length := by omega
        go_wp2
        have q0 := (unhide HB8).o3.cell (i := 0) rfl
        have q1 := (unhide HB8).o3.cell (i := 1) rfl
        have q2 := (unhide HB8).o3.cell (i := 2) rfl
        have q3 := (unhide HB8).o3.cell (i := 3) rfl
        have q4 := (unhide HB8).o3.cell (i := 4) rfl
        refine bodyPost_ret (v := .tuple #[.agg #[.int .i64 c.wd, .int .i64 c.hg, .slice (some ⟨g1, 0, none⟩) c.D.length k1, .slice (some ⟨g2, 0, none⟩) c.F.length k2, .int .i64 c.ed], .int .i64 4]) (by simp [results, Try.results22, go_sem, q0, q1, q2, q3, q4]) rfl ?_
        refine ⟨some ⟨g1, 0, none⟩, k1, some ⟨g2, 0, none⟩, k2, rfl, ?_, ?_⟩
        · have hO := unhide HO8
          refine OwnCh.lower hO ?_
          exact Nat.le_add_right _ _
        · exact (unhide HB8).below
      · have hki : ¬ (k : Int) < U.length := by omega
        go_wp2
        have q0 := (unhide HB8).o3.cell (i := 0) rfl
        have q1 := (unhide HB8).o3.cell (i := 1) rfl
        have q2 := (unhide HB8).o3.cell (i := 2) rfl
        have q3 := (unhide HB8).o3.cell (i := 3) rfl
        have q4 := (unhide HB8).o3.cell (i := 4) rfl
        refine bodyPost_ret (v := .tuple #[.agg #[.int .i64 c.wd, .int .i64 c.hg, .slice (some ⟨g1, 0, none⟩) c.D.length k1, .slice (some ⟨g2, 0, none⟩) c.F.length k2, .int .i64 c.ed], .int .i64 4]) (by simp [results, Try.results22, go_sem, q0, q1, q2, q3, q4]) rfl ?_
        refine ⟨some ⟨g1, 0, none⟩, k1, some ⟨g2, 0, none⟩, k2, rfl, ?_, ?_⟩
        · have hO := unhide HO8
          refine OwnCh.lower hO ?_
          exact Nat.le_add_right _ _
        · exact (unhide HB8).below
    | true =>
    obtain ⟨hed, hnx⟩ := unhide HX rfl
    have HED := hide hed
    clear hed HX
    have HNX := hide hnx
    have hne1 := hnx.ne1
    have hne2 := hnx.ne2
    have n0 := hnx.box.cell (i := 0) rfl
    have n1 := hnx.box.cell (i := 1) rfl
    have n2 := hnx.box.cell (i := 2) rfl
    have n3 := hnx.box.cell (i := 3) rfl
    have n4 := hnx.box.cell (i := 4) rfl
    have nf := hnx.box.frozen
    have hgk : U.length - k ≤ U.length := by omega
    clear hnx
    by_cases hkn : k < U.length
    case neg =>
      have hki : ¬ (k : Int) < U.length := by omega
      have hke : k = U.length := by omega
      have hAC := unhide HXG (unhide HED)
      have hnq := (unhide HNX).nk.eq
      rw [hke, List.take_length] at hnq
      rw [hnq] at hAC
      simp only [if_true, Prod.mk.injEq] at hAC
      obtain ⟨rfl, rfl⟩ := hAC
      have HBX := hide ((unhide HB).step ((unhide HBL).setCell (p := ⟨gN, 4, none⟩) hgN (.int .i64 ed)))
      have HOX : Hid (OwnCh (w.heap.size + 3) (wr.setCell ⟨gN, 4, none⟩ (.int .i64 ed)).heap.size (wr.setCell ⟨gN, 4, none⟩ (.int .i64 ed)) (some ⟨m1, 0, none⟩) l1 (some ⟨gf, 0, none⟩) fk d.D d.F (recCells 5 eFeature d.F)) :=
        OwnCh.whole (OwnCh.lower ((unhide HNX).own.keptAt (T := fun b => b = gN) (Kept.setCell (T := fun b => b = gN) (Kept.refl _ _) (p := ⟨gN, 4, none⟩) rfl _) (fun g e (h : g = gN) => by cases e; exact hne1 h) (fun g e (h : g = gN) => by cases e; exact hne2 h)) (by omega))
      have r0 := (unhide HBr).o3.cell (i := 0) rfl
      have r1 := (unhide HBr).o3.cell (i := 1) rfl
      have r2 := (unhide HBr).o3.cell (i := 2) rfl
      have r3 := (unhide HBr).o3.cell (i := 3) rfl
      have r4 := (unhide HBr).o3.cell (i := 4) rfl
      have rf := (unhide HBr).o3.frozen
      have hy1 : ¬ gN = w.heap.size + 1 + 1 := by omega
      have hy2 : ¬ w.heap.size + 1 + 1 = gN := by omega
      have hy3 : ¬ gN = w.heap.size + 1 := by omega
      have hy4 : ¬ w.heap.size + 1 = gN := by omega
      have hx1 : ¬ w.heap.size = w.heap.size + 1 + 1 := by omega
      have hx2 : ¬ w.heap.size + 1 + 1 = w.heap.size := by omega
      have d0 := (unhide HBX).o3.cell (i := 0) rfl
      have d1 := (unhide HBX).o3.cell (i := 1) rfl
      have d2 := (unhide HBX).o3.cell (i := 2) rfl
      have d3 := (unhide HBX).o3.cell (i := 3) rfl
      have d4 := (unhide HBX).o3.cell (i := 4) rfl
      have df := (unhide HBX).o3.frozen
      have HB8 := hide ((((((unhide HBX).put3 0 (.int .i64 d.wd) (by simp)).put3 1 (.int .i64 d.hg) (by simp)).put3 2 (.slice (some ⟨m1, 0, none⟩) d.D.length l1) (by simp)).put3 3 (.slice (some ⟨gf, 0, none⟩) d.F.length fk) (by simp)).put3 4 (.int .i64 ed) (by simp))
      have HO8 := hide (OwnCh.set5 (OwnCh.set5 (OwnCh.set5 (OwnCh.set5 (OwnCh.set5 (unhide HOX) 0 (.int .i64 d.wd)) 1 (.int .i64 d.hg)) 2 (.slice (some ⟨m1, 0, none⟩) d.D.length l1)) 3 (.slice (some ⟨gf, 0, none⟩) d.F.length fk)) 4 (.int .i64 ed))
      clear hnq
      go_wp2
      have q0 := (unhide HB8).o3.cell (i := 0) rfl
      have q1 := (unhide HB8).o3.cell (i := 1) rfl
      have q2 := (unhide HB8).o3.cell (i := 2) rfl
      have q3 := (unhide HB8).o3.cell (i := 3) rfl
      have q4 := (unhide HB8).o3.cell (i := 4) rfl
      refine bodyPost_ret (v := .tuple #[.agg #[.int .i64 d.wd, .int .i64 d.hg, .slice (some ⟨m1, 0, none⟩) d.D.length l1, .slice (some ⟨gf, 0, none⟩) d.F.length fk, .int .i64 ed], .int .i64 0]) (by simp [results, Try.results22, go_sem, q0, q1, q2, q3, q4]) rfl ?_
      refine ⟨some ⟨m1, 0, none⟩, l1, some ⟨gf, 0, none⟩, fk, rfl, ?_, ?_⟩
      · have hO := unhide HO8
        refine OwnCh.lower hO ?_
        exact Nat.le_add_right _ _
      · exact (unhide HB8).below
    have hki : (k : Int) < U.length := by omega
    obtain ⟨aq, cq, eq, _, _, hcq⟩ := (unhide HN).below (unhide HBr).below
    simp only [Value.slice.injEq] at eq
    obtain ⟨rfl, -, rfl⟩ := eq
    obtain ⟨bf, o, x0, x1, x2, x3, x4, x5, x6, e', hc0, hc1, hc2, hc3, hc4, hc5, hc6, EF⟩ := recNoteAt hcq hkn
    subst e'
    have HQ := hide fun V h => l6Note_any w2.heap.size V.heap.size d x0 x1 x2 x3 x4 x5 x6 (some ⟨m1, 0, none⟩) l1 gf fk V h (by rw [(unhide HNX).nk.wd]; exact ⟨hw0, hw1⟩) (by rw [(unhide HNX).nk.hg]; exact ⟨hh0, hh1⟩) (by rw [(unhide HNX).nk.len, (unhide HNX).nk.wd, (unhide HNX).nk.hg]; exact hlen) (unhide HNX).nk.many
    have HKn := hide fun h => (unhide HNX).nk.next hkn h
    have HKf := hide fun h => (unhide HNX).nk.fail hkn h
    rw [unhide EF] at HKn HKf
    obtain ⟨⟨d', r⟩, ez⟩ : ∃ z, z = noteOf d (x0, x1, x2, x3, x4, x5, x6) := ⟨_, rfl⟩
    rw [← ez] at HQ HKn HKf
    unfold NoteAns vChart vNote at HQ
    dsimp only at HQ HKn HKf
    clear ez hcq EF
    go_wp2_with fail
    go_region_with (first | (go_at_call 70; refine (unhide HQ _ (by first | exact (unhide HNX).own | exact OwnCh.whole ((unhide HNX).own.below (Below.refl _ _).drew))).mono ?_; rintro e w4 ⟨gf', fk', rfl, hO4, hb4, hk4, hat⟩; have hb4' : Below w2.heap.size wr w4 := (by first | exact hb4 | exact ⟨hb4.os, hb4.tape, hb4.output, hb4.size, hb4.block⟩); have hk4' : Kept (fun b => some (⟨m1, 0, none⟩ : Addr) = some ⟨b, 0, none⟩ ∨ b = gf) wr w4 := (by first | exact hk4 | exact ⟨hk4.os, hk4.tape, hk4.output, hk4.size, hk4.block⟩); have hat' : gf' = gf ∨ wr.heap.size ≤ gf' := hat; have HO4 := hide hO4; have HB4 := hide hb4'; have HX5 := hide ((unhide HNX).box.kept hk4' (fun e => by rcases e with e | e; exact hne1 (by cases e; rfl); exact hne2 e.symm)); have hne3 : gf' ≠ gN := (by rcases hat' with e | e; rw [e]; exact hne2; omega); have p0 := (unhide HX5).cell (i := 0) rfl; have p1 := (unhide HX5).cell (i := 1) rfl; have p2 := (unhide HX5).cell (i := 2) rfl; have p3 := (unhide HX5).cell (i := 3) rfl; have p4 := (unhide HX5).cell (i := 4) rfl; have pf := (unhide HX5).frozen; clear hO4 hb4 hk4 hat hb4' hk4' hat'))
    all_goals
      have HK5 := hide (kept_five (Kept.refl (fun b => b = gN) w4) rfl (.int .i64 d'.wd) (.int .i64 d'.hg) (.slice (some ⟨m1, 0, none⟩) d'.D.length l1) (.slice (some ⟨gf', 0, none⟩) d'.F.length fk') (.int .i64 d'.ed))
      have HXN := hide (own_five (unhide HX5) (.int .i64 d'.wd) (.int .i64 d'.hg) (.slice (some ⟨m1, 0, none⟩) d'.D.length l1) (.slice (some ⟨gf', 0, none⟩) d'.F.length fk') (.int .i64 d'.ed))
      have HON := hide (OwnCh.whole ((unhide HO4).keptAt (unhide HK5) (fun g e (h : g = gN) => by cases e; exact hne1 h) (fun g e (h : g = gN) => by cases e; exact hne3 h)))
      have HBN := hide (((unhide HBL).trans (unhide HB4)).trans ((unhide HK5).below (B := w2.heap.size) (Nat.le_trans (unhide HBL).size (unhide HB4).size) (fun b e => by omega)))
      have hgl5 := Nat.lt_of_lt_of_le hgl (Nat.le_trans (unhide HB4).size (unhide HK5).size)
      have HFN : Hid (r = false → c = A ∧ (4 : Int) = code) := fun hr => by
        have hAC := unhide HXG (unhide HED)
        rw [unhide HKf hr] at hAC
        simp only [Bool.false_eq_true, if_false, Prod.mk.injEq] at hAC
        exact ⟨hAC.1.symm, hAC.2.symm⟩
      go_wp2
      go_roundg (U.length - (k + 1))
      case measure => omega
      case rel => exact ⟨k + 1, r, gf', fk', d', by omega, rfl, by go_num, rfl, fun hr => ⟨unhide HED, unhide HKn hr, unhide HXN, unhide HON, hne1, hne3⟩, HFN, HBN, hgl5⟩

end Go.Proofs.Ytmpicamenjnkkaa
