/- Laid together out of: ImJ, ImApply6. -/
import Derived.Test.YtmpicamenjnkkaaPm
import Derived.Test.YtmpicamenjnkkaaPd

/- Notes one after another, in numbers: what they keep. Mathematics; no statement about the program stands here. -/
namespace Go.Proofs.Ytmpicamenjnkkaa

def IdsOk (F : List FeatureT) : Prop := ∀ f ∈ F, 1 ≤ f.1 ∧ f.1 ≤ 1000000
theorem noteOf_ids {c : Ch} (h : IdsOk c.F) (n : NoteT) : IdsOk (noteOf c n).1.F := by
  unfold noteOf
  split
  · split
    · exact h
    · next hn =>
      simp only [Bool.or_eq_true, Bool.not_eq_true', not_or] at hn
      have hf : featB c.wd c.hg (addedF n) = true := by
        cases hq : featB c.wd c.hg (addedF n) with
        | true => rfl
        | false => exact absurd hq hn.1.1
      simp only [featB, inB, Bool.and_eq_true, decide_eq_true_eq] at hf
      intro f hf'
      rcases List.mem_append.1 hf' with hm | hm
      · exact h f (List.mem_of_mem_take hm)
      · rcases List.mem_cons.1 hm with rfl | hm
        · exact hf.1.1.1
        · exact h f (List.mem_of_mem_drop hm)
  · split
    · split
      · exact h
      · intro f hf'
        rcases List.mem_append.1 hf' with hm | hm
        · exact h f (List.mem_of_mem_take hm)
        · exact h f (List.mem_of_mem_drop hm)
    · split
      · split
        · exact h
        · next hn =>
          simp only [Bool.or_eq_true, decide_eq_true_eq, not_or] at hn
          have hb := findOf_bd c.F n.2.1
          intro f hf'
          rcases List.mem_or_eq_of_mem_set hf' with hm | rfl
          · exact h f hm
          · have hi : (findOf c.F n.2.1).toNat < c.F.length := by omega
            have : c.F.getD (findOf c.F n.2.1).toNat default ∈ c.F := by rw [getD_lt hi]; exact List.getElem_mem _
            have h2 := h _ this
            exact h2
      · split
        · split
          · exact h
          · exact h
        · exact h
theorem notes_app : ∀ (ns ms : List NoteT) (c : Ch), notesOf (ns ++ ms) c = if (notesOf ns c).2 = true then notesOf ms (notesOf ns c).1 else notesOf ns c
  | [], ms, c => by simp [notesOf]
  | n :: ns, ms, c => by
    rw [List.cons_append, notesOf, notesOf]
    by_cases h : (noteOf c n).2 = true
    · rw [if_pos h, if_pos h]; exact notes_app ns ms _
    · rw [if_neg h, if_neg h]; simp
/-- After k notes, all of them done. -/
structure NK (c : Ch) (L : List NoteT) (k : Nat) (d : Ch) : Prop where
  eq : notesOf (L.take k) c = (d, true)
  wd : d.wd = c.wd
  hg : d.hg = c.hg
  ed : d.ed = c.ed
  len : d.D.length = c.D.length
  many : d.F.length ≤ 30
  asc : Asc d.F
  ids : IdsOk d.F
theorem nk_zero {c : Ch} (h : chartB c = true) (L : List NoteT) : NK c L 0 c := by
  obtain ⟨_, _, _, _, _, hF, _, _⟩ := chartB_head h
  refine ⟨rfl, rfl, rfl, rfl, rfl, hF, chart_asc h, fun f hf => ?_⟩
  obtain ⟨i, hi, rfl⟩ := List.mem_iff_getElem.1 hf
  have := id_bd h hi
  rwa [getD_lt hi] at this
theorem NK.next {c d : Ch} {L : List NoteT} {k : Nat} (h : NK c L k d) (hk : k < L.length) (hn : (noteOf d (L.getD k default)).2 = true) : NK c L (k + 1) (noteOf d (L.getD k default)).1 := by
  obtain ⟨q1, q2, q3, q4, q5⟩ := noteOf_keeps d (L.getD k default) h.many
  refine ⟨?_, q1.trans h.wd, q2.trans h.hg, q3.trans h.ed, q4.trans h.len, q5, noteOf_asc h.asc _, noteOf_ids h.ids _⟩
  have e : L.take (k + 1) = L.take k ++ [L.getD k default] := by rw [List.take_add_one, List.getElem?_eq_getElem hk, getD_lt hk]; rfl
  rw [e, notes_app, h.eq, if_pos rfl, notesOf, if_pos hn]
  rfl
theorem NK.fail {c d : Ch} {L : List NoteT} {k : Nat} (h : NK c L k d) (hk : k < L.length) (hn : (noteOf d (L.getD k default)).2 = false) : (notesOf L c).2 = false := by
  have e : L = L.take k ++ (L.getD k default :: L.drop (k + 1)) := by rw [getD_lt hk, ← List.drop_eq_getElem_cons hk, List.take_append_drop]
  rw [e, notes_app, h.eq, if_pos rfl]
  have e2 : (L.take k ++ (L.getD k default :: L.drop (k + 1))).getD k default = L.getD k default := by rw [← e]
  rw [notesOf, if_neg (by rw [hn]; simp)]

end Go.Proofs.Ytmpicamenjnkkaa

/- The contract of the program's Apply6. -/
namespace Go.Proofs.Ytmpicamenjnkkaa
open Go.RowKit

theorem ownCh_of {w w' : World} {g1 g2 : Nat} {D : List Int} {F : List FeatureT} (h0 : w.heap.size ≤ g1) (h1 : g1 < g2) (o1 : OwnV w' g1 (ints D)) (o2 : OwnV w' g2 (recCells 5 eFeature F)) (hD : D.length ≤ 1048576) (hF : F.length ≤ 1048576) :
    OwnCh w.heap.size w'.heap.size w' (some ⟨g1, 0, none⟩) D.length (some ⟨g2, 0, none⟩) F.length D F (recCells 5 eFeature F) :=
  ⟨⟨Nat.le_refl _, by unfold maxLen; omega, Nat.le_refl _, by unfold maxLen; omega⟩, g1, g2, h0, o1.lt, by omega, o2.lt, by omega, Nat.le_refl _, fun _ => ⟨rfl, o1⟩, fun _ => ⟨rfl, o2⟩⟩

theorem own_at {w V w' : World} {da fa : Option Addr} {dk fk : Nat} {D : List Int} {F : List FeatureT} {fs : List Value} (h : OwnCh V.heap.size w'.heap.size w' da dk fa fk D F fs) (hb : w.heap.size + 3 ≤ V.heap.size) : OwnCh (w.heap.size + 3) w'.heap.size w' da dk fa fk D F fs := by
  obtain ⟨h0, g1, g2, a1, a2, a3, a4, a5⟩ := h
  exact ⟨h0, g1, g2, by omega, a2, by omega, a4, a5⟩
theorem OwnCh.set5 {w w' : World} {da fa : Option Addr} {dk fk : Nat} {D : List Int} {F : List FeatureT} {fs : List Value} (h : OwnCh (w.heap.size + 3) w'.heap.size w' da dk fa fk D F fs) (i : Nat) (u : Value) : OwnCh (w.heap.size + 3) (w'.setCell ⟨w.heap.size + 1 + 1, i, none⟩ u).heap.size (w'.setCell ⟨w.heap.size + 1 + 1, i, none⟩ u) da dk fa fk D F fs := by
  have e : (w'.setCell ⟨w.heap.size + 1 + 1, i, none⟩ u).heap.size = w'.heap.size := by simp [World.setCell]
  rw [e]
  exact h.kept (T := fun b => b = w.heap.size + 1 + 1) (Kept.setCell (T := fun b => b = w.heap.size + 1 + 1) (Kept.refl _ w') (p := ⟨w.heap.size + 1 + 1, i, none⟩) rfl u) (fun b hb _ e => by omega)
theorem OwnCh.lower {B B' U : Nat} {w : World} {da fa : Option Addr} {dk fk : Nat} {D : List Int} {F : List FeatureT} {fs : List Value} (h : OwnCh B U w da dk fa fk D F fs) (hb : B' ≤ B) : OwnCh B' U w da dk fa fk D F fs := by
  obtain ⟨h0, g1, g2, a1, a2, a3, a4, a5⟩ := h
  exact ⟨h0, g1, g2, by omega, a2, by omega, a4, a5⟩
theorem apply_ready {c : Ch} {ed : Int} {U : List NoteT} {r : Int} (hr : r = (if (!chartB c || !inB U.length 1 20) = true then 1 else if ed ≤ c.ed then 2 else if c.ed + 1 < ed then 3 else if 1000000 < ed then 4 else 0)) (h : r ≠ 0) : applyOf c (ed, U) = (c, r) := by
  unfold applyOf
  dsimp only
  split at hr
  · next h1 => rw [if_pos h1, hr]
  · next h1 =>
    rw [if_neg h1]
    split at hr
    · next h2 => rw [if_pos h2, hr]
    · next h2 =>
      rw [if_neg h2]
      split at hr
      · next h3 => rw [if_pos h3, hr]
      · next h3 =>
        rw [if_neg h3]
        split at hr
        · next h4 => rw [if_neg (by rw [decide_eq_false (by omega)]; simp), hr]
        · exact absurd hr h

theorem apply_go {c : Ch} {ed : Int} {U : List NoteT} (hr : (0 : Int) = (if (!chartB c || !inB U.length 1 20) = true then 1 else if ed ≤ c.ed then 2 else if c.ed + 1 < ed then 3 else if 1000000 < ed then 4 else 0)) : chartB c = true ∧ U.length ≤ 20 ∧ ed ≤ 1000000 ∧ applyOf c (ed, U) = if (notesOf U c).2 = true then ({ (notesOf U c).1 with ed := ed }, 0) else (c, 4) := by
  split at hr
  · cases hr
  · next h1 =>
    split at hr
    · cases hr
    · next h2 =>
      split at hr
      · cases hr
      · next h3 =>
        split at hr
        · cases hr
        · next h4 =>
          simp only [Bool.or_eq_true, Bool.not_eq_true', not_or, Bool.not_eq_false] at h1
          have hin := inB_true h1.2
          refine ⟨h1.1, by omega, by omega, ?_⟩
          unfold applyOf
          dsimp only
          rw [if_neg (by rw [h1.1, h1.2]; simp), if_neg h2, if_neg h3, decide_eq_true (by omega), Bool.true_and]

theorem told_own {w w1 W' : World} {gd : Nat} {fa : Option Addr} {fk : Nat} {d : Ch} (hs : w.heap.size + 1 + 1 < w1.heap.size) (h : ToldP w1 W' gd fa fk d) (hD : d.D.length ≤ 1048576) : Below w1.heap.size w1 W' ∧ Hid (OwnCh (w.heap.size + 3) W'.heap.size W' (some ⟨gd, 0, none⟩) d.D.length fa fk d.D d.F (recCells 5 eFeature d.F)) := by
  obtain ⟨B, ho, hr, h1, h2, ⟨x, hx1, hx2, hx3⟩, hb⟩ := h
  refine ⟨hb, ?_⟩
  obtain ⟨hl, h⟩ := hr
  rcases h with ⟨e, h0⟩ | ⟨g, cap, cur, hv, hg, hh, hc, hm, hs', ht⟩
  · simp only [Value.slice.injEq] at e
    obtain ⟨rfl, -, rfl⟩ := e
    have hF0 : d.F = [] := List.eq_nil_of_length_eq_zero (by omega)
    have hlt := ho.lt
    refine ⟨⟨Nat.le_refl _, by unfold maxLen; omega, by rw [hF0]; simp, Nat.zero_le _⟩, gd, x, by omega, hlt, by omega, hx3, fun e => hx1 e.symm, Nat.le_refl _, fun _ => ⟨rfl, ho⟩, fun hne => absurd hF0 hne⟩
  · simp only [Value.slice.injEq] at hv
    obtain ⟨rfl, -, rfl⟩ := hv
    have hgl : g < W'.heap.size := (Array.getElem?_eq_some_iff.1 hh).1
    refine ⟨⟨Nat.le_refl _, by unfold maxLen; omega, by simpa using hc, hm⟩, gd, g, by omega, ho.lt, by omega, hgl, by omega, Nat.le_refl _, fun _ => ⟨rfl, ho⟩, fun _ => ⟨rfl, cur, _, hh, fun i hi => ?_⟩⟩
    rw [recCells_length] at hi
    rw [← ht, List.getElem?_take, if_pos hi]
    simp

set_option maxRecDepth 10000 in
set_option maxHeartbeats 8000000 in
theorem implApply6_any (c : Ch) (ed : Int) (U : List NoteT) (dao : Option Addr) (dn dc : Nat) (fao : Option Addr) (fn fc : Nat) (nao : Option Addr) (nn nc : Nat) (w : World) (hD : IntsIn w (.slice dao dn dc) c.D) (hF : RFeature w (.slice fao fn fc) c.F) (hN : RNote w (.slice nao nn nc) U) (hsD : c.D.length ≤ 1048576) (hsF : c.F.length ≤ 1048576)
    (hI : ∀ i, i < U.length → -9223372036854775808 ≤ (U.getD i default).2.1 ∧ (U.getD i default).2.1 ≤ 9223372036854775807) :
    Calls Try.prog 9 #[vChart c.wd c.hg (.slice dao dn dc) (.slice fao fn fc) c.ed, vUpdate ed (.slice nao nn nc)] w fun e w' => ∃ da dk fa fk, e = .returned (.tuple #[vChart (applyOf c (ed, U)).1.wd (applyOf c (ed, U)).1.hg (.slice da (applyOf c (ed, U)).1.D.length dk) (.slice fa (applyOf c (ed, U)).1.F.length fk) (applyOf c (ed, U)).1.ed, .int .i64 (applyOf c (ed, U)).2]) ∧ OwnCh w.heap.size w'.heap.size w' da dk fa fk (applyOf c (ed, U)).1.D (applyOf c (ed, U)).1.F (recCells 5 eFeature (applyOf c (ed, U)).1.F) ∧ Below w.heap.size w w' := by
  obtain rfl := recs_len_eq hN
  obtain rfl := ints_len_eq hD
  obtain rfl := recs_len_eq hF
  obtain ⟨⟨A, code⟩, eA⟩ : ∃ z, z = applyOf c (ed, U) := ⟨_, rfl⟩
  rw [← eA]
  dsimp only
  have EA := hide eA
  clear eA
  have HB := hide (b3_new w #[.int .i64 c.wd, .int .i64 c.hg, .slice dao c.D.length dc, .slice fao c.F.length fc, .int .i64 c.ed] #[.int .i64 ed, .slice nao U.length nc] #[.int .i64 0, .int .i64 0, .slice none 0 0, .slice none 0 0, .int .i64 0] 27 35 27)
  have HRD := hide (readiness_any c dao c.D.length dc fao c.F.length fc ed nao U.length nc _ (hD.below (unhide HB).below) (hF.below (unhide HB).below))
  have HOC := hide fun V (hV : Below w.heap.size w V) => ownChart_any c dao c.D.length dc fao c.F.length fc V (hD.below hV) (hF.below hV) hsD hsF
  have HSO := hide fun V (hV : Below w.heap.size w V) (hok : chartB c = true) => sheetOf_any c dao c.D.length dc fao c.F.length fc V (hD.below hV) (hF.below hV) hok
  have HN := hide hN
  have HID := hide hI
  obtain ⟨rc, erc⟩ : ∃ r : Int, r = (if (!chartB c || !inB U.length 1 20) = true then 1 else if ed ≤ c.ed then 2 else if c.ed + 1 < ed then 3 else if 1000000 < ed then 4 else 0) := ⟨_, rfl⟩
  rw [← erc] at HRD
  have ERC := hide erc
  clear hD hF hN hI erc
  unfold vChart vUpdate at *
  go_enter Try.func9, Try.ntmps9
  go_wp2_with fail
  refine (unhide HRD).mono ?_
  rintro e w1 ⟨rfl, hb⟩
  replace HB := hide ((unhide HB).step hb)
  clear hb HRD
  have c0 := (unhide HB).o1.cell (i := 0) rfl
  have c1 := (unhide HB).o1.cell (i := 1) rfl
  have c2 := (unhide HB).o1.cell (i := 2) rfl
  have c3 := (unhide HB).o1.cell (i := 3) rfl
  have c4 := (unhide HB).o1.cell (i := 4) rfl
  by_cases hrc : rc = 0
  case neg =>
    have d1 : (rc != 0) = true := by simp; exact hrc
    have d2 : (rc == 0) = false := by simp; exact hrc
    have EZ := apply_ready (U := U) (unhide ERC) hrc
    rw [← unhide EA] at EZ
    simp only [Prod.mk.injEq] at EZ
    obtain ⟨rfl, rfl⟩ := (⟨EZ.1.symm, EZ.2.symm⟩ : c = A ∧ rc = code)
    clear EA ERC EZ
    go_wp2_with fail
    refine (unhide HOC _ (unhide HB).below).mono ?_
    have hsz := (unhide HB).o3.lt
    rintro e w2 ⟨g1, g2, rfl, hg1, hg2, ho1, ho2, hb⟩
    replace HB := hide ((unhide HB).step hb)
    have HOc := hide (own_at (w := w) (ownCh_of hg1 hg2 ho1 ho2 hsD hsF) (by omega))
    clear hb ho1 ho2 hg1 hg2
    clear hsz c0 c1 c2 c3 c4 HOC HSO
    have hx1 : ¬ w.heap.size = w.heap.size + 1 + 1 := by omega
    have hx2 : ¬ w.heap.size + 1 + 1 = w.heap.size := by omega
    have d0 := (unhide HB).o3.cell (i := 0) rfl
    have d1 := (unhide HB).o3.cell (i := 1) rfl
    have d2 := (unhide HB).o3.cell (i := 2) rfl
    have d3 := (unhide HB).o3.cell (i := 3) rfl
    have d4 := (unhide HB).o3.cell (i := 4) rfl
    have df := (unhide HB).o3.frozen
    have HB8 := hide ((((((unhide HB).put3 0 (.int .i64 c.wd) (by simp)).put3 1 (.int .i64 c.hg) (by simp)).put3 2 (.slice (some ⟨g1, 0, none⟩) c.D.length c.D.length) (by simp)).put3 3 (.slice (some ⟨g2, 0, none⟩) c.F.length c.F.length) (by simp)).put3 4 (.int .i64 c.ed) (by simp))
    have HO8 := hide (OwnCh.set5 (OwnCh.set5 (OwnCh.set5 (OwnCh.set5 (OwnCh.set5 (unhide HOc) 0 (.int .i64 c.wd)) 1 (.int .i64 c.hg)) 2 (.slice (some ⟨g1, 0, none⟩) c.D.length c.D.length)) 3 (.slice (some ⟨g2, 0, none⟩) c.F.length c.F.length)) 4 (.int .i64 c.ed))
    clear HB HOc
    go_wp2
    have q0 := (unhide HB8).o3.cell (i := 0) rfl
    have q1 := (unhide HB8).o3.cell (i := 1) rfl
    have q2 := (unhide HB8).o3.cell (i := 2) rfl
    have q3 := (unhide HB8).o3.cell (i := 3) rfl
    have q4 := (unhide HB8).o3.cell (i := 4) rfl
    refine bodyPost_ret (v := .tuple #[.agg #[.int .i64 c.wd, .int .i64 c.hg, .slice (some ⟨g1, 0, none⟩) c.D.length c.D.length, .slice (some ⟨g2, 0, none⟩) c.F.length c.F.length, .int .i64 c.ed], .int .i64 rc]) (by simp [results, Try.results9, go_sem, q0, q1, q2, q3, q4]) rfl ?_
    refine ⟨some ⟨g1, 0, none⟩, c.D.length, some ⟨g2, 0, none⟩, c.F.length, rfl, ?_, ?_⟩
    · have hO := unhide HO8
      refine OwnCh.lower hO ?_
      exact Nat.le_add_right _ _
    · exact (unhide HB8).below
  subst hrc
  obtain ⟨hok, hU20, hed, hap⟩ := apply_go (U := U) (unhide ERC)
  rw [← unhide EA] at hap
  have HAP := hide hap
  clear EA ERC hap
  go_wp2_with fail
  refine (unhide HSO _ (unhide HB).below hok).mono ?_
  rintro e w2 ⟨sh, rfl, gd, b, fa0, fk0, fl0, hS⟩
  have HS0 := hide hS
  have u1 := ((unhide HB).step hS.below).o2.cell (i := 1) rfl
  clear hS c0 c1 c2 c3 c4 HSO
  obtain ⟨hw0, hw1, hh0, hh1, hlen, hF30, -, -⟩ := chartB_head hok
  go_wp2
  go_loopg [23] U.length (fun gm i wr => ∃ k : Nat, k ≤ U.length ∧ gm = U.length - k ∧ i = .int .i64 k ∧ ∃ d : Ch, Hid (NK c U k d) ∧ Hid (Sh w1 wr sh gd b (c.F.length + k) (.slice fa0 fk0 fl0) d))
  case atStart => exact ⟨0, Nat.zero_le _, rfl, rfl, c, nk_zero hok U, HS0⟩
  case round =>
    clear HS0 u1
    obtain ⟨k, hk, rfl, rfl, d, HK, HS⟩ := hrel
    have HBr := hide ((unhide HB).step (unhide HS).below)
    by_cases hkn : k < U.length
    · have hki : (k : Int) < U.length := by omega
      have hNr := (unhide HN).below (unhide HBr).below
      obtain ⟨aq, cq, eq, _, _, hcq⟩ := hNr
      simp only [Value.slice.injEq] at eq
      obtain ⟨rfl, -, rfl⟩ := eq
      obtain ⟨bf, o, x0, x1, x2, x3, x4, x5, x6, e', hc0, hc1, hc2, hc3, hc4, hc5, hc6, EF⟩ := recNoteAt hcq hkn
      subst e'
      obtain ⟨hid0, hid1⟩ := unhide HID k hkn
      rw [unhide EF] at hid0 hid1
      dsimp only at hid0 hid1
      have AL := Below.alloc1 wr (.cells #[.int .i64 x0, .int .i64 x1, .int .i64 x2, .int .i64 x3, .int .i64 x4, .string x5, .int .i64 x6] 74)
      have HQ := hide (shDo_any w1 _ sh gd b (c.F.length + k) (.slice fa0 fk0 fl0) d x0 x1 x2 x3 x4 x5 x6 ((unhide HS).step AL) (unhide HK).asc (by omega) (by rw [(unhide HK).wd]; exact ⟨hw0, hw1⟩) (by rw [(unhide HK).hg]; exact ⟨hh0, hh1⟩) (by rw [(unhide HK).len, (unhide HK).wd, (unhide HK).hg]; exact hlen) hid0 hid1)
      have HKn := hide fun h => (unhide HK).next hkn h
      have HKf := hide fun h => (unhide HK).fail hkn h
      rw [unhide EF] at HKn HKf
      clear HK HS hcq EF AL
      unfold vNote at HQ
      go_wp2_with fail
      refine (unhide HQ).mono ?_
      rintro e V ⟨rfl, hbe, hsh⟩
      have HBV := hide ((unhide HB).step hbe)
      have HSH := hide hsh
      clear hbe hsh HQ hc0 hc1 hc2 hc3 hc4 hc5 hc6 HBr
      cases hno : (noteOf d (x0, x1, x2, x3, x4, x5, x6)).2 with
      | true =>
        go_wp2
        go_roundg (U.length - (k + 1))
        case measure => omega
        case rel => exact ⟨k + 1, by omega, rfl, by go_num, _, unhide HKn hno, unhide HSH hno⟩
      | false =>
        have hnf := unhide HKf hno
        have EZ := unhide HAP
        rw [hnf, if_neg (by simp), Prod.mk.injEq] at EZ
        obtain ⟨rfl, rfl⟩ := (⟨EZ.1.symm, EZ.2.symm⟩ : c = A ∧ (4 : Int) = code)
        clear EZ HAP HKf HKn HSH hnf
        have c0 := (unhide HBV).o1.cell (i := 0) rfl
        have c1 := (unhide HBV).o1.cell (i := 1) rfl
        have c2 := (unhide HBV).o1.cell (i := 2) rfl
        have c3 := (unhide HBV).o1.cell (i := 3) rfl
        have c4 := (unhide HBV).o1.cell (i := 4) rfl
        have hsz := (unhide HBV).o3.lt
        go_wp2_with fail
        refine (unhide HOC _ (unhide HBV).below).mono ?_
        rintro e w3 ⟨g1, g2, rfl, hg1, hg2, ho1, ho2, hb⟩
        replace HBV := hide ((unhide HBV).step hb)
        have HOc := hide (own_at (w := w) (ownCh_of hg1 hg2 ho1 ho2 hsD hsF) (by omega))
        clear hb ho1 ho2 hg1 hg2 hsz c0 c1 c2 c3 c4 HOC
        have hx1 : ¬ w.heap.size = w.heap.size + 1 + 1 := by omega
        have hx2 : ¬ w.heap.size + 1 + 1 = w.heap.size := by omega
        have d0 := (unhide HBV).o3.cell (i := 0) rfl
        have d1 := (unhide HBV).o3.cell (i := 1) rfl
        have d2 := (unhide HBV).o3.cell (i := 2) rfl
        have d3 := (unhide HBV).o3.cell (i := 3) rfl
        have d4 := (unhide HBV).o3.cell (i := 4) rfl
        have df := (unhide HBV).o3.frozen
        have HB8 := hide ((((((unhide HBV).put3 0 (.int .i64 c.wd) (by simp)).put3 1 (.int .i64 c.hg) (by simp)).put3 2 (.slice (some ⟨g1, 0, none⟩) c.D.length c.D.length) (by simp)).put3 3 (.slice (some ⟨g2, 0, none⟩) c.F.length c.F.length) (by simp)).put3 4 (.int .i64 c.ed) (by simp))
        have HO8 := hide (OwnCh.set5 (OwnCh.set5 (OwnCh.set5 (OwnCh.set5 (OwnCh.set5 (unhide HOc) 0 (.int .i64 c.wd)) 1 (.int .i64 c.hg)) 2 (.slice (some ⟨g1, 0, none⟩) c.D.length c.D.length)) 3 (.slice (some ⟨g2, 0, none⟩) c.F.length c.F.length)) 4 (.int .i64 c.ed))
        clear HBV HOc
        go_wp2
        have q0 := (unhide HB8).o3.cell (i := 0) rfl
        have q1 := (unhide HB8).o3.cell (i := 1) rfl
        have q2 := (unhide HB8).o3.cell (i := 2) rfl
        have q3 := (unhide HB8).o3.cell (i := 3) rfl
        have q4 := (unhide HB8).o3.cell (i := 4) rfl
        refine bodyPost_ret (v := .tuple #[.agg #[.int .i64 c.wd, .int .i64 c.hg, .slice (some ⟨g1, 0, none⟩) c.D.length c.D.length, .slice (some ⟨g2, 0, none⟩) c.F.length c.F.length, .int .i64 c.ed], .int .i64 4]) (by simp [results, Try.results9, go_sem, q0, q1, q2, q3, q4]) rfl ?_
        refine ⟨some ⟨g1, 0, none⟩, c.D.length, some ⟨g2, 0, none⟩, c.F.length, rfl, ?_, ?_⟩
        · have hO := unhide HO8
          refine OwnCh.lower hO ?_
          exact Nat.le_add_right _ _
        · exact (unhide HB8).below
    · have hkk : k = U.length := by omega
      have hki : ¬ (k : Int) < U.length := by omega
      subst hkk
      have hNK := (unhide HK).eq
      rw [List.take_length] at hNK
      have EZ := unhide HAP
      rw [hNK, if_pos rfl, Prod.mk.injEq] at EZ
      obtain ⟨eA, rfl⟩ := (⟨EZ.1, EZ.2.symm⟩ : A = { d with ed := ed } ∧ (0 : Int) = code)
      subst eA
      have HT := hide (shTold_any w1 wr sh gd b (c.F.length + U.length) fa0 fk0 fl0 d ed (unhide HS) (unhide HK).asc (unhide HK).many (fun f hf => by have := (unhide HK).ids f hf; omega))
      have u0 := (unhide HBr).o2.cell (i := 0) rfl
      have hDl : d.D.length ≤ 1048576 := by rw [(unhide HK).len]; exact hsD
      have hsz := (unhide HB).o3.lt
      clear EZ HAP hNK HK HS HOC
      unfold vChart at HT
      go_wp2_with fail
      refine (unhide HT).mono ?_
      rintro e w3 ⟨fa, fk, rfl, hT⟩
      obtain ⟨HBV0, HOc⟩ := told_own (w := w) (w1 := w1) hsz hT hDl
      have HBV := hide ((unhide HB).step HBV0)
      clear HBV0 hT HT u0 HBr HB hsz
      have hx1 : ¬ w.heap.size = w.heap.size + 1 + 1 := by omega
      have hx2 : ¬ w.heap.size + 1 + 1 = w.heap.size := by omega
      have d0 := (unhide HBV).o3.cell (i := 0) rfl
      have d1 := (unhide HBV).o3.cell (i := 1) rfl
      have d2 := (unhide HBV).o3.cell (i := 2) rfl
      have d3 := (unhide HBV).o3.cell (i := 3) rfl
      have d4 := (unhide HBV).o3.cell (i := 4) rfl
      have df := (unhide HBV).o3.frozen
      have HB8 := hide ((((((unhide HBV).put3 0 (.int .i64 d.wd) (by simp)).put3 1 (.int .i64 d.hg) (by simp)).put3 2 (.slice (some ⟨gd, 0, none⟩) d.D.length d.D.length) (by simp)).put3 3 (.slice fa d.F.length fk) (by simp)).put3 4 (.int .i64 ed) (by simp))
      have HO8 := hide (OwnCh.set5 (OwnCh.set5 (OwnCh.set5 (OwnCh.set5 (OwnCh.set5 (unhide HOc) 0 (.int .i64 d.wd)) 1 (.int .i64 d.hg)) 2 (.slice (some ⟨gd, 0, none⟩) d.D.length d.D.length)) 3 (.slice fa d.F.length fk)) 4 (.int .i64 ed))
      clear HBV HOc
      go_wp2
      have q0 := (unhide HB8).o3.cell (i := 0) rfl
      have q1 := (unhide HB8).o3.cell (i := 1) rfl
      have q2 := (unhide HB8).o3.cell (i := 2) rfl
      have q3 := (unhide HB8).o3.cell (i := 3) rfl
      have q4 := (unhide HB8).o3.cell (i := 4) rfl
      refine bodyPost_ret (v := .tuple #[.agg #[.int .i64 d.wd, .int .i64 d.hg, .slice (some ⟨gd, 0, none⟩) d.D.length d.D.length, .slice fa d.F.length fk, .int .i64 ed], .int .i64 0]) (by simp [results, Try.results9, go_sem, q0, q1, q2, q3, q4]) rfl ?_
      refine ⟨some ⟨gd, 0, none⟩, d.D.length, fa, fk, rfl, ?_, ?_⟩
      · have hO := unhide HO8
        refine OwnCh.lower hO ?_
        exact Nat.le_add_right _ _
      · exact (unhide HB8).below

end Go.Proofs.Ytmpicamenjnkkaa
