/- Laid together out of: ChQ1. -/
import Derived.Test.YtmpicamenjnkkaaPh

/- The specification's l6Note: a feature added. -/
namespace Go.Proofs.Ytmpicamenjnkkaa
open Go.RowKit

theorem recCells_one (a b c d : Int) (e : ByteArray) : recCells 5 eFeature [(a, b, c, d, e)] = [.int .i64 a, .int .i64 b, .int .i64 c, .int .i64 d, .string e] := by
  simp [recCells, List.range_succ, eFeature]
theorem insAt_lt : ∀ {F : List FeatureT} {id : Int} {i : Nat}, i < insAt F id → (F.getD i default).1 < id
  | [], id, i, h => by simp [insAt] at h
  | y :: r, id, i, h => by
    unfold insAt at h
    rw [List.takeWhile_cons] at h
    by_cases hy : y.1 < id
    · rw [decide_eq_true hy] at h
      simp only [if_true, List.length_cons] at h
      cases i with
      | zero => simpa [List.getD] using hy
      | succ i =>
        have := insAt_lt (F := r) (id := id) (i := i) (by unfold insAt; omega)
        simpa [List.getD] using this
    · rw [decide_eq_false hy] at h
      simp at h
theorem insAt_at : ∀ {F : List FeatureT} {id : Int}, insAt F id < F.length → ¬ (F.getD (insAt F id) default).1 < id
  | [], id, h => by simp at h
  | y :: r, id, h => by
    unfold insAt at h ⊢
    rw [List.takeWhile_cons] at h ⊢
    by_cases hy : y.1 < id
    · rw [decide_eq_true hy] at h ⊢
      simp only [if_true, List.length_cons] at h ⊢
      have := insAt_at (F := r) (id := id) (by unfold insAt; omega)
      unfold insAt at this
      simpa [List.getD] using this
    · rw [decide_eq_false hy]
      simpa [List.getD] using hy

set_option maxRecDepth 10000 in
set_option maxHeartbeats 8000000 in
theorem l6NoteAdd_any (B U : Nat) (c : Ch) (id x y d : Int) (t : ByteArray) (so : Int) (da : Option Addr) (dk : Nat) (gf : Nat) (fk : Nat) (W : World) (h : OwnCh B U W da dk (some ⟨gf, 0, none⟩) fk c.D c.F (recCells 5 eFeature c.F)) (hw : 1 ≤ c.wd ∧ c.wd ≤ 12) (hh : 1 ≤ c.hg ∧ c.hg ≤ 12) :
    Calls Try.prog 70 #[vChart c.wd c.hg (.slice da c.D.length dk) (.slice (some ⟨gf, 0, none⟩) c.F.length fk) c.ed, vNote 1 id x y d t so] W fun e W' => NoteAns B da dk gf W W' e (noteOf c (1, id, x, y, d, t, so)) := by
  obtain ⟨⟨A, r⟩, eA⟩ : ∃ z, z = noteOf c (1, id, x, y, d, t, so) := ⟨_, rfl⟩
  rw [← eA]
  have EA := hide eA
  have HB := hide (b3_new W #[.int .i64 c.wd, .int .i64 c.hg, .slice da c.D.length dk, .slice (some ⟨gf, 0, none⟩) c.F.length fk, .int .i64 c.ed] #[.int .i64 1, .int .i64 id, .int .i64 x, .int .i64 y, .int .i64 d, .string t, .int .i64 so] #[.int .i64 0, .int .i64 0, .slice none 0 0, .slice none 0 0, .int .i64 0] 27 74 27)
  have HFi := hide (l6Find_any c.wd c.hg c.ed (.slice da c.D.length dk) (some ⟨gf, 0, none⟩) c.F.length fk c.F id _ (h.feats.below (unhide HB).below))
  have HO := hide h
  have hUW : B ≤ U ∧ U ≤ W.heap.size := h.sizes
  clear eA h
  have hfb := findOf_bd c.F id
  obtain ⟨at0, eat⟩ : ∃ z, z = findOf c.F id := ⟨_, rfl⟩
  rw [← eat] at HFi hfb
  have EAT := hide eat
  clear eat
  unfold vChart vNote at *
  go_enter Try.func70, Try.ntmps70
  go_wp2_with fail
  refine (unhide HFi).mono ?_
  rintro e V ⟨rfl, hb⟩
  replace HB := hide ((unhide HB).step hb)
  replace HO := hide ((unhide HO).below (unhide HB).below)
  clear hb HFi
  have hnk : ∀ z, noteOf c (1, id, x, y, d, t, so) = z ↔ (if (!featB c.wd c.hg (id, so, x, y, t) || decide (0 ≤ findOf c.F id) || decide (30 ≤ c.F.length)) = true then (c, false) else ({ c with F := c.F.take (insAt c.F id) ++ (id, so, x, y, t) :: c.F.drop (insAt c.F id) }, true)) = z := fun z => by
    unfold noteOf
    rw [if_pos rfl]
    rfl
  rw [← unhide EAT] at hnk
  have HNK := hide hnk
  clear hnk
  have HQ := hide fun V => l6Feature_any c.wd c.hg c.ed (.slice da c.D.length dk) (.slice (some ⟨gf, 0, none⟩) c.F.length fk) id so x y t V hw.1 hw.2 hh.1 hh.2
  unfold vChart vFeature at HQ
  have c0 := (unhide HB).o1.cell (i := 0) rfl
  have c1 := (unhide HB).o1.cell (i := 1) rfl
  have c2 := (unhide HB).o1.cell (i := 2) rfl
  have c3 := (unhide HB).o1.cell (i := 3) rfl
  have c4 := (unhide HB).o1.cell (i := 4) rfl
  have n0 := (unhide HB).o2.cell (i := 0) rfl
  have n1 := (unhide HB).o2.cell (i := 1) rfl
  have n2 := (unhide HB).o2.cell (i := 2) rfl
  have n3 := (unhide HB).o2.cell (i := 3) rfl
  have n4 := (unhide HB).o2.cell (i := 4) rfl
  have n5 := (unhide HB).o2.cell (i := 5) rfl
  have n6 := (unhide HB).o2.cell (i := 6) rfl
  have c0a : ∀ o, (V.alloc o).cell? ⟨W.heap.size, 0, none⟩ = some (.int .i64 c.wd) := fun o => wcell3 c0 (Below.alloc1 V o)
  have c1a : ∀ o, (V.alloc o).cell? ⟨W.heap.size, 1, none⟩ = some (.int .i64 c.hg) := fun o => wcell3 c1 (Below.alloc1 V o)
  have c2a : ∀ o, (V.alloc o).cell? ⟨W.heap.size, 2, none⟩ = some (.slice da c.D.length dk) := fun o => wcell3 c2 (Below.alloc1 V o)
  have c3a : ∀ o, (V.alloc o).cell? ⟨W.heap.size, 3, none⟩ = some (.slice (some ⟨gf, 0, none⟩) c.F.length fk) := fun o => wcell3 c3 (Below.alloc1 V o)
  have c4a : ∀ o, (V.alloc o).cell? ⟨W.heap.size, 4, none⟩ = some (.int .i64 c.ed) := fun o => wcell3 c4 (Below.alloc1 V o)
  go_wp2_with fail
  refine (unhide HQ _).mono ?_
  rintro e V2 ⟨rfl, hb⟩
  have hVf : W.heap.size + 1 + 1 < V.heap.size := (unhide HB).o3.lt
  have hb2 : Below V.heap.size V V2 := Below.step (Below.alloc1 V (.cells #[.int .i64 id, .int .i64 so, .int .i64 x, .int .i64 y, .string t] 91)) hb
  have HFx := hide ((ownV_alloc V #[.int .i64 id, .int .i64 so, .int .i64 x, .int .i64 y, .string t] 91).step hb)
  replace HB := hide ((unhide HB).step hb2)
  replace HO := hide ((unhide HO).below hb2)
  clear hb hb2 HQ c0a c1a c2a c3a c4a c0 c1 c2 c3 c4 n0 n1 n2 n3 n4 n5 n6
  have c0 := (unhide HB).o1.cell (i := 0) rfl
  have c1 := (unhide HB).o1.cell (i := 1) rfl
  have c2 := (unhide HB).o1.cell (i := 2) rfl
  have c3 := (unhide HB).o1.cell (i := 3) rfl
  have c4 := (unhide HB).o1.cell (i := 4) rfl
  have n0 := (unhide HB).o2.cell (i := 0) rfl
  have n1 := (unhide HB).o2.cell (i := 1) rfl
  have n2 := (unhide HB).o2.cell (i := 2) rfl
  have n3 := (unhide HB).o2.cell (i := 3) rfl
  have n4 := (unhide HB).o2.cell (i := 4) rfl
  have n5 := (unhide HB).o2.cell (i := 5) rfl
  have n6 := (unhide HB).o2.cell (i := 6) rfl
  generalize V.heap.size = gx at *
  cases hfe : featB c.wd c.hg (id, so, x, y, t) with
  | false =>
    have EZ : Hid ((A, r) = (c, false)) := by show _ = _; rw [unhide EA]; exact (unhide HNK _).2 (by rw [hfe]; rfl)
    have hU : U ≤ W.heap.size + 1 + 1 := by omega
    have hx1 : ¬ W.heap.size = W.heap.size + 1 + 1 := by omega
    have hx2 : ¬ W.heap.size + 1 + 1 = W.heap.size := by omega
    have hx3 : ¬ W.heap.size + 1 = W.heap.size + 1 + 1 := by omega
    have d0 := (unhide HB).o3.cell (i := 0) rfl
    have d1 := (unhide HB).o3.cell (i := 1) rfl
    have d2 := (unhide HB).o3.cell (i := 2) rfl
    have d3 := (unhide HB).o3.cell (i := 3) rfl
    have d4 := (unhide HB).o3.cell (i := 4) rfl
    have df := (unhide HB).o3.frozen
    have HB8 := hide ((((((unhide HB).put3 0 (.int .i64 c.wd) (by simp)).put3 1 (.int .i64 c.hg) (by simp)).put3 2 (.slice da c.D.length dk) (by simp)).put3 3 (.slice (some ⟨gf, 0, none⟩) c.F.length fk) (by simp)).put3 4 (.int .i64 c.ed) (by simp))
    have HO8 := hide (OwnCh.far (OwnCh.far (OwnCh.far (OwnCh.far (OwnCh.far (unhide HO) hU 0 (.int .i64 c.wd)) hU 1 (.int .i64 c.hg)) hU 2 (.slice da c.D.length dk)) hU 3 (.slice (some ⟨gf, 0, none⟩) c.F.length fk)) hU 4 (.int .i64 c.ed))
    clear HB HO
    go_wp2
    have q0 := (unhide HB8).o3.cell (i := 0) rfl
    have q1 := (unhide HB8).o3.cell (i := 1) rfl
    have q2 := (unhide HB8).o3.cell (i := 2) rfl
    have q3 := (unhide HB8).o3.cell (i := 3) rfl
    have q4 := (unhide HB8).o3.cell (i := 4) rfl
    refine bodyPost_ret (v := .tuple #[.agg #[.int .i64 c.wd, .int .i64 c.hg, .slice da c.D.length dk, .slice (some ⟨gf, 0, none⟩) c.F.length fk, .int .i64 c.ed], .bool false]) (by simp [results, Try.results70, go_sem, q0, q1, q2, q3, q4]) rfl ?_
    exact ⟨gf, fk, by rw [unhide EZ]; rfl, by rw [unhide EZ]; exact OwnCh.whole (unhide HO8), (unhide HB8).below.mono (by omega), kept_of_below (unhide HB8).below, Or.inl rfl⟩
  | true =>
  by_cases hat : 0 ≤ at0
  · have hatd : decide (0 ≤ at0) = true := decide_eq_true hat
    have EZ : Hid ((A, r) = (c, false)) := by show _ = _; rw [unhide EA]; exact (unhide HNK _).2 (by rw [hatd]; simp)
    have hU : U ≤ W.heap.size + 1 + 1 := by omega
    have hx1 : ¬ W.heap.size = W.heap.size + 1 + 1 := by omega
    have hx2 : ¬ W.heap.size + 1 + 1 = W.heap.size := by omega
    have hx3 : ¬ W.heap.size + 1 = W.heap.size + 1 + 1 := by omega
    have d0 := (unhide HB).o3.cell (i := 0) rfl
    have d1 := (unhide HB).o3.cell (i := 1) rfl
    have d2 := (unhide HB).o3.cell (i := 2) rfl
    have d3 := (unhide HB).o3.cell (i := 3) rfl
    have d4 := (unhide HB).o3.cell (i := 4) rfl
    have df := (unhide HB).o3.frozen
    have HB8 := hide ((((((unhide HB).put3 0 (.int .i64 c.wd) (by simp)).put3 1 (.int .i64 c.hg) (by simp)).put3 2 (.slice da c.D.length dk) (by simp)).put3 3 (.slice (some ⟨gf, 0, none⟩) c.F.length fk) (by simp)).put3 4 (.int .i64 c.ed) (by simp))
    have HO8 := hide (OwnCh.far (OwnCh.far (OwnCh.far (OwnCh.far (OwnCh.far (unhide HO) hU 0 (.int .i64 c.wd)) hU 1 (.int .i64 c.hg)) hU 2 (.slice da c.D.length dk)) hU 3 (.slice (some ⟨gf, 0, none⟩) c.F.length fk)) hU 4 (.int .i64 c.ed))
    clear HB HO
    go_wp2
    have q0 := (unhide HB8).o3.cell (i := 0) rfl
    have q1 := (unhide HB8).o3.cell (i := 1) rfl
    have q2 := (unhide HB8).o3.cell (i := 2) rfl
    have q3 := (unhide HB8).o3.cell (i := 3) rfl
    have q4 := (unhide HB8).o3.cell (i := 4) rfl
    refine bodyPost_ret (v := .tuple #[.agg #[.int .i64 c.wd, .int .i64 c.hg, .slice da c.D.length dk, .slice (some ⟨gf, 0, none⟩) c.F.length fk, .int .i64 c.ed], .bool false]) (by simp [results, Try.results70, go_sem, q0, q1, q2, q3, q4]) rfl ?_
    exact ⟨gf, fk, by rw [unhide EZ]; rfl, by rw [unhide EZ]; exact OwnCh.whole (unhide HO8), (unhide HB8).below.mono (by omega), kept_of_below (unhide HB8).below, Or.inl rfl⟩
  have hatd : decide (0 ≤ at0) = false := decide_eq_false hat
  by_cases h30 : 30 ≤ c.F.length
  · have h30i : (30 : Int) ≤ c.F.length := by omega
    have EZ : Hid ((A, r) = (c, false)) := by show _ = _; rw [unhide EA]; exact (unhide HNK _).2 (by rw [decide_eq_true h30]; simp)
    have hU : U ≤ W.heap.size + 1 + 1 := by omega
    have hx1 : ¬ W.heap.size = W.heap.size + 1 + 1 := by omega
    have hx2 : ¬ W.heap.size + 1 + 1 = W.heap.size := by omega
    have hx3 : ¬ W.heap.size + 1 = W.heap.size + 1 + 1 := by omega
    have d0 := (unhide HB).o3.cell (i := 0) rfl
    have d1 := (unhide HB).o3.cell (i := 1) rfl
    have d2 := (unhide HB).o3.cell (i := 2) rfl
    have d3 := (unhide HB).o3.cell (i := 3) rfl
    have d4 := (unhide HB).o3.cell (i := 4) rfl
    have df := (unhide HB).o3.frozen
    have HB8 := hide ((((((unhide HB).put3 0 (.int .i64 c.wd) (by simp)).put3 1 (.int .i64 c.hg) (by simp)).put3 2 (.slice da c.D.length dk) (by simp)).put3 3 (.slice (some ⟨gf, 0, none⟩) c.F.length fk) (by simp)).put3 4 (.int .i64 c.ed) (by simp))
    have HO8 := hide (OwnCh.far (OwnCh.far (OwnCh.far (OwnCh.far (OwnCh.far (unhide HO) hU 0 (.int .i64 c.wd)) hU 1 (.int .i64 c.hg)) hU 2 (.slice da c.D.length dk)) hU 3 (.slice (some ⟨gf, 0, none⟩) c.F.length fk)) hU 4 (.int .i64 c.ed))
    clear HB HO
    go_wp2
    have q0 := (unhide HB8).o3.cell (i := 0) rfl
    have q1 := (unhide HB8).o3.cell (i := 1) rfl
    have q2 := (unhide HB8).o3.cell (i := 2) rfl
    have q3 := (unhide HB8).o3.cell (i := 3) rfl
    have q4 := (unhide HB8).o3.cell (i := 4) rfl
    refine bodyPost_ret (v := .tuple #[.agg #[.int .i64 c.wd, .int .i64 c.hg, .slice da c.D.length dk, .slice (some ⟨gf, 0, none⟩) c.F.length fk, .int .i64 c.ed], .bool false]) (by simp [results, Try.results70, go_sem, q0, q1, q2, q3, q4]) rfl ?_
    exact ⟨gf, fk, by rw [unhide EZ]; rfl, by rw [unhide EZ]; exact OwnCh.whole (unhide HO8), (unhide HB8).below.mono (by omega), kept_of_below (unhide HB8).below, Or.inl rfl⟩
  have h30i : ¬ (30 : Int) ≤ c.F.length := by omega
  have EZ : Hid ((A, r) = ({ c with F := c.F.take (insAt c.F id) ++ (id, so, x, y, t) :: c.F.drop (insAt c.F id) }, true)) := by show _ = _; rw [unhide EA]; exact (unhide HNK _).2 (by rw [hfe, hatd, decide_eq_false h30]; rfl)
  have hil := insAt_le c.F id
  have HIL := hide fun i => insAt_lt (F := c.F) (id := id) (i := i)
  have HIA := hide (insAt_at (F := c.F) (id := id))
  obtain ⟨ia, eia⟩ : ∃ z, z = insAt c.F id := ⟨_, rfl⟩
  rw [← eia] at EZ hil HIL HIA
  have hfk : c.F.length ≤ fk ∧ fk ≤ maxLen := ⟨(unhide HO).1.2.2.1, (unhide HO).1.2.2.2⟩
  unfold maxLen at hfk
  obtain ⟨hfk0, hfk1⟩ := hfk
  have d30 : decide ((30 : Int) ≤ (c.F.length : Int)) = false := decide_eq_false h30i
  clear HNK EA EAT eia
  go_wp2
  clear hat hatd h30i hfe d30 c0 c1 c2 c3 c4 n0 n1 n2 n3 n4 n5 n6
  go_loopg [8] c.F.length (fun gm i wr => ∃ k : Nat, k ≤ ia ∧ gm = c.F.length - k ∧ i = .int .i64 k ∧ Below V2.heap.size V2 wr)
  case atStart => exact ⟨0, Nat.zero_le _, rfl, rfl, Below.refl _ _⟩
  case round =>
    obtain ⟨k, hk, rfl, rfl, hbw⟩ := hrel
    have HBr := hide ((unhide HB).step hbw)
    have HOr := hide ((unhide HO).below hbw)
    have HFr := hide ((unhide HFx).step hbw)
    have HBW := hide hbw
    clear hbw
    have c3 := (unhide HBr).o1.cell (i := 3) rfl
    have n1 := (unhide HBr).o2.cell (i := 1) rfl
    by_cases hkn : k < c.F.length
    · have hki : (k : Int) < c.F.length := by omega
      have hO2 := (unhide HOr).feats
      obtain ⟨aq, cq, eq, _, _, hcq⟩ := hO2
      simp only [Value.slice.injEq] at eq
      obtain ⟨rfl, -, rfl⟩ := eq
      obtain ⟨bq, oq, f0, f1, f2, f3, f4, e', hc0, _, _, _, _, EF⟩ := recFeatureAt hcq hkn
      simp only [Option.some.injEq, Addr.mk.injEq, and_true] at e'
      obtain ⟨rfl, rfl⟩ := e'
      simp only [Nat.zero_add] at hc0
      have hL := unhide HIL k
      have hA := unhide HIA
      rw [unhide EF] at hL
      dsimp only at hL
      by_cases hlt : f0 < id
      · have hk1 : k + 1 ≤ ia := by
          apply Classical.byContradiction
          intro hn
          have e : ia = k := by omega
          rw [e, unhide EF] at hA
          have h9 := hA hkn
          dsimp only at h9
          omega
        have dl : decide (f0 < id) = true := decide_eq_true hlt
        clear hcq EF hL hA
        go_wp2_with fail
        go_quiet (fail)
        have HBW' := hide (below_drewN (unhide HBW) nq)
        go_wp2
        go_roundg (c.F.length - (k + 1))
        case measure => omega
        case rel => exact ⟨k + 1, hk1, rfl, by go_num, unhide HBW'⟩
      · have hk1 : k = ia := by
          apply Classical.byContradiction
          intro hn
          exact hlt (hL (by omega))
        have dl : decide (f0 < id) = false := decide_eq_false hlt
        clear hcq EF hL hA
        subst hk1
        go_wp2_with fail
        go_quiet (fail)
        go_wp2_with fail
        have HBx := hide ((unhide HBr).step (below_drewN (Below.refl _ wr) nq))
        have HOx := hide ((unhide HOr).below (below_drewN (Below.refl _ wr) nq))
        have HFq := hide ((unhide HFr).step (below_drewN (Below.refl _ wr) nq))
        obtain ⟨X, eX⟩ : ∃ z, z = wr.drewN nq := ⟨_, rfl⟩
        rw [← eX] at HBx HOx HFq ⊢
        clear eX HBr HOr HFr HBW HB HO HFx c3 n1 HIL HIA
        have hO2 : OwnV X gf (recCells 5 eFeature c.F) ∨ c.F = [] := by
          by_cases hne : c.F = []
          · exact Or.inr hne
          · obtain ⟨g2, _, _, hfa, hO, _⟩ := ownCh_feat (unhide HOx) hne
            obtain rfl : gf = g2 := by simpa using hfa
            exact Or.inl hO
        have HO2 := hide hO2
        clear hO2
        have hUX : U ≤ X.heap.size := (unhide HOx).sizes.2
        have hXW : W.heap.size + 1 + 1 < X.heap.size := (unhide HBx).o3.lt
        have hgxX : gx < X.heap.size := (unhide HFq).lt
        obtain ⟨i1, hi', hy0, hy1, hy2⟩ := info_parts Try.infoFeature
        have HR0 : Hid ((X.alloc (.cells #[.int .i64 id, .int .i64 so, .int .i64 x, .int .i64 y, .string t] 91)).drew.ownsRow X.heap.size 91 5 (.slice (some ⟨X.heap.size, 0, none⟩) 1 1) 1 [.int .i64 id, .int .i64 so, .int .i64 x, .int .i64 y, .string t]) := ⟨rfl, Or.inr ⟨X.heap.size, 1, #[.int .i64 id, .int .i64 so, .int .i64 x, .int .i64 y, .string t], rfl, Nat.le_refl _, Go.Deep.blk_alloc_new _ _, Nat.le_refl _, by unfold maxLen; omega, rfl, rfl⟩⟩
        have HN2 : Hid (∀ wa, Below X.heap.size X wa → c.F.length - k ≠ 0 → ∀ q u, (recCells 5 eFeature (c.F.drop k))[q]? = some u → wa.cell? ((⟨gf, k * 5, none⟩ : Addr).add q) = some u) := fun wa hb hm q u hu => by
          rcases unhide HO2 with hO | hE
          · have h2 := rec_part (hO.step hb) k (c.F.length - k) (by omega) q u
            rw [List.take_of_length_le (by rw [List.length_drop]; omega)] at h2
            exact h2 hu
          · rw [hE] at hm; simp at hm
        have HLT2 : Hid ((recCells 5 eFeature (c.F.drop k)).length = (c.F.length - k) * 5) := by show _ = _; rw [recCells_length, List.length_drop]
        have c3 := (unhide HBx).o1.cell (i := 3) rfl
        have c3a : ∀ o, (X.alloc o).cell? ⟨W.heap.size, 3, none⟩ = some (.slice (some ⟨gf, 0, none⟩) c.F.length fk) := fun o => wcell3 c3 (Below.alloc1 X o)
        have f0' := (unhide HFq).cell (i := 0) rfl
        have f1' := (unhide HFq).cell (i := 1) rfl
        have f2' := (unhide HFq).cell (i := 2) rfl
        have f3' := (unhide HFq).cell (i := 3) rfl
        have f4' := (unhide HFq).cell (i := 4) rfl
        have hz1 : (0 : Int) ≤ (k : Int) := by omega
        have hz2 : (k : Int) ≤ c.F.length := by omega
        have hjk : k ≤ fk := by omega
        have hjk3 : ¬ fk = k := by omega
        go_region_law (first | (refine step_append_any (by rfl) (.tmp 63) (.tmp 67) 25 (by rfl) X.heap.size 91 i1 _ 5 48 Try.underlying25 hi' hy0 hy1 hy2 rfl (by decide) X.heap.size 1 1 [.int .i64 id, .int .i64 so, .int .i64 x, .int .i64 y, .string t] (by rfl) (unhide HR0) (Nat.le_refl _) (some ⟨gf, k * 5, none⟩) (c.F.length - k) _ (recCells 5 eFeature (c.F.drop k)) (by rfl) (unhide HLT2) (fun h => ⟨_, rfl, unhide HN2 _ ((Below.alloc1 X _).drew) h⟩) fe_one (by unfold maxLen; omega) (by omega) (by simp) ?_; intro ga capa wa howna hca hgra hata; have HBa : Hid (Below X.heap.size X wa) := ((((Below.refl X.heap.size X).alloc (Nat.le_refl _) _).drew).grown hgra (by simp) (fun g hg => by simp at hg; omega)); have HOWa := hide howna; have c3b := wcell3 c3 (unhide HBa); clear howna hgra hata))
        all_goals
          have hRWl : (([.int .i64 id, .int .i64 so, .int .i64 x, .int .i64 y, .string t] : List Value) ++ recCells 5 eFeature (c.F.drop k)).length = (1 + (c.F.length - k)) * 5 := by rw [List.length_append, recCells_length, List.length_drop]; simp; omega
          obtain ⟨hgaX, hcapa, hOga⟩ := ownsRow_own (unhide HOWa) hRWl
          have hgal := hOga.lt
          have hwaX : X.heap.size ≤ wa.heap.size := (unhide HBa).size
          have HRW := hide hRWl
          have HN3 : Hid (∀ w', Below wa.heap.size wa w' → ∀ q u, (([.int .i64 id, .int .i64 so, .int .i64 x, .int .i64 y, .string t] : List Value) ++ recCells 5 eFeature (c.F.drop k))[q]? = some u → w'.cell? ((⟨ga, 0, none⟩ : Addr).add q) = some u) := fun w' hb q u hu => by
            rw [Go.WideShapes.add_plain, Nat.zero_add]
            exact (hOga.step hb).cell hu
          have HR1 : Hid ((wa.alloc (.cells #[] 91)).ownsRow wa.heap.size 91 5 (.slice (some ⟨wa.heap.size, 0, none⟩) 0 0) 0 []) := ⟨rfl, Or.inr ⟨wa.heap.size, 0, #[], rfl, Nat.le_refl _, Go.Deep.blk_alloc_new _ _, Nat.le_refl _, Nat.zero_le _, rfl, rfl⟩⟩
          have HN1 : Hid (k ≠ 0 → ∃ ad, some (⟨gf, 0, none⟩ : Addr) = some ad ∧ ∀ q u, (recCells 5 eFeature (c.F.take k))[q]? = some u → (wa.alloc (.cells #[] 91)).cell? (ad.add q) = some u) := fun hk0 => ⟨_, rfl, fun q u hu => by
            rcases unhide HO2 with hO | hE
            · have h2 := rec_part ((hO.step (unhide HBa)).alloc (.cells #[] 91)) 0 k (by omega) q u (by rw [List.drop_zero]; exact hu)
              rw [Nat.zero_mul] at h2
              exact h2
            · rw [hE] at hu; simp [recCells] at hu⟩
          have HLT1 : Hid ((recCells 5 eFeature (c.F.take k)).length = k * 5) := by show _ = _; rw [recCells_length, List.length_take, Nat.min_eq_left (by omega)]
          have H1C : Hid (∀ u ∈ (([.int .i64 id, .int .i64 so, .int .i64 x, .int .i64 y, .string t] : List Value) ++ recCells 5 eFeature (c.F.drop k)), u.oneCell' = true) := fun u hu => by
            rcases List.mem_append.1 hu with h | h
            · simp only [List.mem_cons, List.not_mem_nil, or_false] at h
              rcases h with rfl | rfl | rfl | rfl | rfl <;> rfl
            · exact fe_one u h
          have c3c : ∀ o, (wa.alloc o).cell? ⟨W.heap.size, 3, none⟩ = some (.slice (some ⟨gf, 0, none⟩) c.F.length fk) := fun o => wcell3 c3b (Below.alloc1 wa o)
          clear hRWl hOga
          go_upto_region 12 with (at_builtin; first | (refine wpList_append_whole rfl _ _ 25 rfl wa.heap.size 91 i1 _ 5 48 Try.underlying25 hi' hy0 hy1 hy2 rfl (by decide) wa.heap.size rfl (unhide HR1) (some ⟨gf, 0, none⟩) k _ (recCells 5 eFeature (c.F.take k)) rfl (unhide HLT1) (unhide HN1) fe_one (by unfold maxLen; omega) (by omega) (by simp) ?_; intro g1 cap1 w1 hown1 hgr1 hat1; have HB1 : Hid (Below wa.heap.size wa w1) := (((Below.refl wa.heap.size wa).alloc (Nat.le_refl _) _).grown hgr1 (by simp) (fun g hg => by simp at hg; omega)); have HOW1 := hide hown1; clear hown1 hgr1 hat1) | (refine wpList_append_lies _ rfl _ _ 25 rfl wa.heap.size 91 i1 _ 5 48 Try.underlying25 hi' hy0 hy1 hy2 rfl (by decide) (.slice (some ⟨g1, 0, none⟩) k cap1) k (recCells 5 eFeature (c.F.take k)) rfl (unhide HOW1) ⟨ga, 0, none⟩ (1 + (c.F.length - k)) capa (([.int .i64 id, .int .i64 so, .int .i64 x, .int .i64 y, .string t] : List Value) ++ recCells 5 eFeature (c.F.drop k)) rfl (unhide HRW) (unhide HN3 _ (unhide HB1)) (unhide H1C) (by omega) (by unfold maxLen; omega) (by omega) (unhide HB1).size _ rfl ?_; intro gb capb wb hownb hgrb hatb hltb; have HOWb := hide hownb; have HBw : Hid (Below wa.heap.size wa wb) := ((unhide HB1).grown hgrb (unhide HB1).size (fun g hg => ((unhide HOW1).lt g hg).1)); have HBb : Hid (Below X.heap.size X wb) := Below.step (unhide HBa) (unhide HBw); have q3 := ((unhide HBx).o1.step (unhide HBb)).cell (i := 3) rfl; have q4 := ((unhide HBx).o1.step (unhide HBb)).frozen 3; clear hownb hgrb hatb))
          have hlen : recCells 5 eFeature (c.F.take k) ++ (([.int .i64 id, .int .i64 so, .int .i64 x, .int .i64 y, .string t] : List Value) ++ recCells 5 eFeature (c.F.drop k)) = recCells 5 eFeature (c.F.take k ++ (id, so, x, y, t) :: c.F.drop k) := by rw [recCells_two, show (id, so, x, y, t) :: c.F.drop k = [(id, so, x, y, t)] ++ c.F.drop k from rfl, recCells_two, recCells_one]
          have hGl : (c.F.take k ++ (id, so, x, y, t) :: c.F.drop k).length = (k + (1 + (c.F.length - k))) := by rw [List.length_append, List.length_take, List.length_cons, List.length_drop, Nat.min_eq_left (by omega)]; omega
          have hrow := unhide HOWb
          rw [hlen] at hrow
          obtain ⟨hgbV, hcm, hob⟩ := ownsRow_own hrow (by rw [recCells_length, hGl])
          have hcb : (k + (1 + (c.F.length - k))) ≤ capb := by
            obtain ⟨_, h2⟩ := hrow
            rcases h2 with ⟨e, _⟩ | ⟨g3, cap3, cur, hv, _, _, hc3, _⟩
            · simp at e
            · simp only [Value.slice.injEq] at hv
              obtain ⟨_, _, rfl⟩ := hv
              exact hc3
          have hne1 : W.heap.size + 1 + 1 ≠ W.heap.size := by omega
          have hX := ((unhide HBx).o1.step (unhide HBb)).set 3 (.slice (some ⟨gb, 0, none⟩) (k + (1 + (c.F.length - k))) capb) (by simp)
          have hZ := farN ((unhide HBx).o3.step (unhide HBb)) hne1 3 (.slice (some ⟨gb, 0, none⟩) (k + (1 + (c.F.length - k))) capb)
          have hLW := ((unhide HBx).below.trans (Below.mono (unhide HBb) (by omega : W.heap.size ≤ X.heap.size))).setCell (p := ⟨W.heap.size, 3, none⟩) (Nat.le_refl _) (.slice (some ⟨gb, 0, none⟩) (k + (1 + (c.F.length - k))) capb)
          have hL := hLW.mono (by omega : B ≤ W.heap.size)
          have hO3 := farN hob (show gb ≠ W.heap.size by omega) 3 (.slice (some ⟨gb, 0, none⟩) (k + (1 + (c.F.length - k))) capb)
          have hP := OwnCh.withG (OwnCh.far ((unhide HOx).below (unhide HBb)) (show U ≤ W.heap.size by omega) 3 (.slice (some ⟨gb, 0, none⟩) (k + (1 + (c.F.length - k))) capb)) (by omega : U ≤ gb) (cap := capb) (G := (c.F.take k ++ (id, so, x, y, t) :: c.F.drop k)) (by rw [hGl]; exact hcb) hcm hO3
          obtain ⟨V6, e6⟩ : ∃ z, z = wb.setCell ⟨W.heap.size, 3, none⟩ (.slice (some ⟨gb, 0, none⟩) (k + (1 + (c.F.length - k))) capb) := ⟨_, rfl⟩
          rw [← e6] at hX hZ hL hLW hP ⊢
          have p0 := hX.cell (i := 0) rfl
          have p1 := hX.cell (i := 1) rfl
          have p2 := hX.cell (i := 2) rfl
          have p3 := hX.cell (i := 3) rfl
          have p4 := hX.cell (i := 4) rfl
          have d0 := hZ.cell (i := 0) rfl
          have d1 := hZ.cell (i := 1) rfl
          have d2 := hZ.cell (i := 2) rfl
          have d3 := hZ.cell (i := 3) rfl
          have d4 := hZ.cell (i := 4) rfl
          have df := hZ.frozen
          have hx1 : ¬ W.heap.size = W.heap.size + 1 + 1 := by omega
          have hx2 : ¬ W.heap.size + 1 + 1 = W.heap.size := by omega
          have HZ8 := hide (((((hZ.set 0 (.int .i64 c.wd) (by simp)).set 1 (.int .i64 c.hg) (by simp)).set 2 (.slice da c.D.length dk) (by simp)).set 3 (.slice (some ⟨gb, 0, none⟩) (k + (1 + (c.F.length - k))) capb) (by simp)).set 4 (.int .i64 c.ed) (by simp))
          have hBr : B ≤ W.heap.size + 1 + 1 := by omega
          have HP8 := hide (OwnCh.hole (OwnCh.hole (OwnCh.hole (OwnCh.hole (OwnCh.hole hP (show W.heap.size + 1 + 1 ≠ gb by omega) (show U ≤ W.heap.size + 1 + 1 by omega) 0 (.int .i64 c.wd)) (show W.heap.size + 1 + 1 ≠ gb by omega) (show U ≤ W.heap.size + 1 + 1 by omega) 1 (.int .i64 c.hg)) (show W.heap.size + 1 + 1 ≠ gb by omega) (show U ≤ W.heap.size + 1 + 1 by omega) 2 (.slice da c.D.length dk)) (show W.heap.size + 1 + 1 ≠ gb by omega) (show U ≤ W.heap.size + 1 + 1 by omega) 3 (.slice (some ⟨gb, 0, none⟩) (k + (1 + (c.F.length - k))) capb)) (show W.heap.size + 1 + 1 ≠ gb by omega) (show U ≤ W.heap.size + 1 + 1 by omega) 4 (.int .i64 c.ed))
          have HL8 := hide (Below.setCell (Below.setCell (Below.setCell (Below.setCell (Below.setCell hL (p := ⟨W.heap.size + 1 + 1, 0, none⟩) hBr (.int .i64 c.wd)) (p := ⟨W.heap.size + 1 + 1, 1, none⟩) hBr (.int .i64 c.hg)) (p := ⟨W.heap.size + 1 + 1, 2, none⟩) hBr (.slice da c.D.length dk)) (p := ⟨W.heap.size + 1 + 1, 3, none⟩) hBr (.slice (some ⟨gb, 0, none⟩) (k + (1 + (c.F.length - k))) capb)) (p := ⟨W.heap.size + 1 + 1, 4, none⟩) hBr (.int .i64 c.ed))
          have HW8 := hide (Below.setCell (Below.setCell (Below.setCell (Below.setCell (Below.setCell hLW (p := ⟨W.heap.size + 1 + 1, 0, none⟩) (show W.heap.size ≤ W.heap.size + 1 + 1 by omega) (.int .i64 c.wd)) (p := ⟨W.heap.size + 1 + 1, 1, none⟩) (show W.heap.size ≤ W.heap.size + 1 + 1 by omega) (.int .i64 c.hg)) (p := ⟨W.heap.size + 1 + 1, 2, none⟩) (show W.heap.size ≤ W.heap.size + 1 + 1 by omega) (.slice da c.D.length dk)) (p := ⟨W.heap.size + 1 + 1, 3, none⟩) (show W.heap.size ≤ W.heap.size + 1 + 1 by omega) (.slice (some ⟨gb, 0, none⟩) (k + (1 + (c.F.length - k))) capb)) (p := ⟨W.heap.size + 1 + 1, 4, none⟩) (show W.heap.size ≤ W.heap.size + 1 + 1 by omega) (.int .i64 c.ed))
          have hgbW : W.heap.size ≤ gb := by omega
          clear hX hZ hL hLW hP e6 HBx HOx hlen hrow hob hO3 HOWb HBb HBw HB1 HOW1 HN1 HN2 HN3 HR0 HR1 HLT1 HLT2 HRW H1C HOWa HBa HO2 HFq c3 c3a c3b c3c q3 q4 f0' f1' f2' f3' f4'
          go_wp2
          have q0 := (unhide HZ8).cell (i := 0) rfl
          have q1 := (unhide HZ8).cell (i := 1) rfl
          have q2 := (unhide HZ8).cell (i := 2) rfl
          have q3 := (unhide HZ8).cell (i := 3) rfl
          have q4 := (unhide HZ8).cell (i := 4) rfl
          refine bodyPost_ret (v := .tuple #[.agg #[.int .i64 c.wd, .int .i64 c.hg, .slice da c.D.length dk, .slice (some ⟨gb, 0, none⟩) (k + (1 + (c.F.length - k))) capb, .int .i64 c.ed], .bool true]) (by simp [results, Try.results70, go_sem, q0, q1, q2, q3, q4]) rfl ?_
          refine ⟨gb, capb, ?_, ?_, unhide HL8, kept_of_below (unhide HW8), Or.inr hgbW⟩
          · rw [unhide EZ]; show _ = Ending.returned (.tuple #[vChart c.wd c.hg (.slice _ _ dk) (.slice _ (c.F.take k ++ (id, so, x, y, t) :: c.F.drop k).length capb) c.ed, .bool true]); rw [hGl]; rfl
          · rw [unhide EZ]; exact OwnChG.whole (unhide HP8)
    · have hk1 : k = ia := by omega
      have hki : ¬ (k : Int) < c.F.length := by omega
      subst hk1
      go_wp2_with fail
      go_quiet (fail)
      go_wp2_with fail
      have HBx := hide ((unhide HBr).step (below_drewN (Below.refl _ wr) nq))
      have HOx := hide ((unhide HOr).below (below_drewN (Below.refl _ wr) nq))
      have HFq := hide ((unhide HFr).step (below_drewN (Below.refl _ wr) nq))
      obtain ⟨X, eX⟩ : ∃ z, z = wr.drewN nq := ⟨_, rfl⟩
      rw [← eX] at HBx HOx HFq ⊢
      clear eX HBr HOr HFr HBW HB HO HFx c3 n1 HIL HIA
      have hO2 : OwnV X gf (recCells 5 eFeature c.F) ∨ c.F = [] := by
        by_cases hne : c.F = []
        · exact Or.inr hne
        · obtain ⟨g2, _, _, hfa, hO, _⟩ := ownCh_feat (unhide HOx) hne
          obtain rfl : gf = g2 := by simpa using hfa
          exact Or.inl hO
      have HO2 := hide hO2
      clear hO2
      have hUX : U ≤ X.heap.size := (unhide HOx).sizes.2
      have hXW : W.heap.size + 1 + 1 < X.heap.size := (unhide HBx).o3.lt
      have hgxX : gx < X.heap.size := (unhide HFq).lt
      obtain ⟨i1, hi', hy0, hy1, hy2⟩ := info_parts Try.infoFeature
      have HR0 : Hid ((X.alloc (.cells #[.int .i64 id, .int .i64 so, .int .i64 x, .int .i64 y, .string t] 91)).drew.ownsRow X.heap.size 91 5 (.slice (some ⟨X.heap.size, 0, none⟩) 1 1) 1 [.int .i64 id, .int .i64 so, .int .i64 x, .int .i64 y, .string t]) := ⟨rfl, Or.inr ⟨X.heap.size, 1, #[.int .i64 id, .int .i64 so, .int .i64 x, .int .i64 y, .string t], rfl, Nat.le_refl _, Go.Deep.blk_alloc_new _ _, Nat.le_refl _, by unfold maxLen; omega, rfl, rfl⟩⟩
      have HN2 : Hid (∀ wa, Below X.heap.size X wa → c.F.length - k ≠ 0 → ∀ q u, (recCells 5 eFeature (c.F.drop k))[q]? = some u → wa.cell? ((⟨gf, k * 5, none⟩ : Addr).add q) = some u) := fun wa hb hm q u hu => by
        rcases unhide HO2 with hO | hE
        · have h2 := rec_part (hO.step hb) k (c.F.length - k) (by omega) q u
          rw [List.take_of_length_le (by rw [List.length_drop]; omega)] at h2
          exact h2 hu
        · rw [hE] at hm; simp at hm
      have HLT2 : Hid ((recCells 5 eFeature (c.F.drop k)).length = (c.F.length - k) * 5) := by show _ = _; rw [recCells_length, List.length_drop]
      have c3 := (unhide HBx).o1.cell (i := 3) rfl
      have c3a : ∀ o, (X.alloc o).cell? ⟨W.heap.size, 3, none⟩ = some (.slice (some ⟨gf, 0, none⟩) c.F.length fk) := fun o => wcell3 c3 (Below.alloc1 X o)
      have f0' := (unhide HFq).cell (i := 0) rfl
      have f1' := (unhide HFq).cell (i := 1) rfl
      have f2' := (unhide HFq).cell (i := 2) rfl
      have f3' := (unhide HFq).cell (i := 3) rfl
      have f4' := (unhide HFq).cell (i := 4) rfl
      have hz1 : (0 : Int) ≤ (k : Int) := by omega
      have hz2 : (k : Int) ≤ c.F.length := by omega
      have hjk : k ≤ fk := by omega
      by_cases hfkk : fk = k
      · have hfkT : (fk = k) = True := eq_true hfkk
        clear hfkk
        go_region_law (first | (refine step_append_any (by rfl) (.tmp 63) (.tmp 67) 25 (by rfl) X.heap.size 91 i1 _ 5 48 Try.underlying25 hi' hy0 hy1 hy2 rfl (by decide) X.heap.size 1 1 [.int .i64 id, .int .i64 so, .int .i64 x, .int .i64 y, .string t] (by rfl) (unhide HR0) (Nat.le_refl _) _ (c.F.length - k) _ (recCells 5 eFeature (c.F.drop k)) (by rfl) (unhide HLT2) (fun h => absurd (show c.F.length - k = 0 by omega) h) fe_one (by unfold maxLen; omega) (by omega) (by simp) ?_; intro ga capa wa howna hca hgra hata; have HBa : Hid (Below X.heap.size X wa) := ((((Below.refl X.heap.size X).alloc (Nat.le_refl _) _).drew).grown hgra (by simp) (fun g hg => by simp at hg; omega)); have HOWa := hide howna; have c3b := wcell3 c3 (unhide HBa); clear howna hgra hata))
        all_goals
          have hRWl : (([.int .i64 id, .int .i64 so, .int .i64 x, .int .i64 y, .string t] : List Value) ++ recCells 5 eFeature (c.F.drop k)).length = (1 + (c.F.length - k)) * 5 := by rw [List.length_append, recCells_length, List.length_drop]; simp; omega
          obtain ⟨hgaX, hcapa, hOga⟩ := ownsRow_own (unhide HOWa) hRWl
          have hgal := hOga.lt
          have hwaX : X.heap.size ≤ wa.heap.size := (unhide HBa).size
          have HRW := hide hRWl
          have HN3 : Hid (∀ w', Below wa.heap.size wa w' → ∀ q u, (([.int .i64 id, .int .i64 so, .int .i64 x, .int .i64 y, .string t] : List Value) ++ recCells 5 eFeature (c.F.drop k))[q]? = some u → w'.cell? ((⟨ga, 0, none⟩ : Addr).add q) = some u) := fun w' hb q u hu => by
            rw [Go.WideShapes.add_plain, Nat.zero_add]
            exact (hOga.step hb).cell hu
          have HR1 : Hid ((wa.alloc (.cells #[] 91)).ownsRow wa.heap.size 91 5 (.slice (some ⟨wa.heap.size, 0, none⟩) 0 0) 0 []) := ⟨rfl, Or.inr ⟨wa.heap.size, 0, #[], rfl, Nat.le_refl _, Go.Deep.blk_alloc_new _ _, Nat.le_refl _, Nat.zero_le _, rfl, rfl⟩⟩
          have HN1 : Hid (k ≠ 0 → ∃ ad, some (⟨gf, 0, none⟩ : Addr) = some ad ∧ ∀ q u, (recCells 5 eFeature (c.F.take k))[q]? = some u → (wa.alloc (.cells #[] 91)).cell? (ad.add q) = some u) := fun hk0 => ⟨_, rfl, fun q u hu => by
            rcases unhide HO2 with hO | hE
            · have h2 := rec_part ((hO.step (unhide HBa)).alloc (.cells #[] 91)) 0 k (by omega) q u (by rw [List.drop_zero]; exact hu)
              rw [Nat.zero_mul] at h2
              exact h2
            · rw [hE] at hu; simp [recCells] at hu⟩
          have HLT1 : Hid ((recCells 5 eFeature (c.F.take k)).length = k * 5) := by show _ = _; rw [recCells_length, List.length_take, Nat.min_eq_left (by omega)]
          have H1C : Hid (∀ u ∈ (([.int .i64 id, .int .i64 so, .int .i64 x, .int .i64 y, .string t] : List Value) ++ recCells 5 eFeature (c.F.drop k)), u.oneCell' = true) := fun u hu => by
            rcases List.mem_append.1 hu with h | h
            · simp only [List.mem_cons, List.not_mem_nil, or_false] at h
              rcases h with rfl | rfl | rfl | rfl | rfl <;> rfl
            · exact fe_one u h
          have c3c : ∀ o, (wa.alloc o).cell? ⟨W.heap.size, 3, none⟩ = some (.slice (some ⟨gf, 0, none⟩) c.F.length fk) := fun o => wcell3 c3b (Below.alloc1 wa o)
          clear hRWl hOga
          go_upto_region 12 with (at_builtin; first | (refine wpList_append_whole rfl _ _ 25 rfl wa.heap.size 91 i1 _ 5 48 Try.underlying25 hi' hy0 hy1 hy2 rfl (by decide) wa.heap.size rfl (unhide HR1) (some ⟨gf, 0, none⟩) k _ (recCells 5 eFeature (c.F.take k)) rfl (unhide HLT1) (unhide HN1) fe_one (by unfold maxLen; omega) (by omega) (by simp) ?_; intro g1 cap1 w1 hown1 hgr1 hat1; have HB1 : Hid (Below wa.heap.size wa w1) := (((Below.refl wa.heap.size wa).alloc (Nat.le_refl _) _).grown hgr1 (by simp) (fun g hg => by simp at hg; omega)); have HOW1 := hide hown1; clear hown1 hgr1 hat1) | (refine wpList_append_lies _ rfl _ _ 25 rfl wa.heap.size 91 i1 _ 5 48 Try.underlying25 hi' hy0 hy1 hy2 rfl (by decide) (.slice (some ⟨g1, 0, none⟩) k cap1) k (recCells 5 eFeature (c.F.take k)) rfl (unhide HOW1) ⟨ga, 0, none⟩ (1 + (c.F.length - k)) capa (([.int .i64 id, .int .i64 so, .int .i64 x, .int .i64 y, .string t] : List Value) ++ recCells 5 eFeature (c.F.drop k)) rfl (unhide HRW) (unhide HN3 _ (unhide HB1)) (unhide H1C) (by omega) (by unfold maxLen; omega) (by omega) (unhide HB1).size _ rfl ?_; intro gb capb wb hownb hgrb hatb hltb; have HOWb := hide hownb; have HBw : Hid (Below wa.heap.size wa wb) := ((unhide HB1).grown hgrb (unhide HB1).size (fun g hg => ((unhide HOW1).lt g hg).1)); have HBb : Hid (Below X.heap.size X wb) := Below.step (unhide HBa) (unhide HBw); have q3 := ((unhide HBx).o1.step (unhide HBb)).cell (i := 3) rfl; have q4 := ((unhide HBx).o1.step (unhide HBb)).frozen 3; clear hownb hgrb hatb))
          have hlen : recCells 5 eFeature (c.F.take k) ++ (([.int .i64 id, .int .i64 so, .int .i64 x, .int .i64 y, .string t] : List Value) ++ recCells 5 eFeature (c.F.drop k)) = recCells 5 eFeature (c.F.take k ++ (id, so, x, y, t) :: c.F.drop k) := by rw [recCells_two, show (id, so, x, y, t) :: c.F.drop k = [(id, so, x, y, t)] ++ c.F.drop k from rfl, recCells_two, recCells_one]
          have hGl : (c.F.take k ++ (id, so, x, y, t) :: c.F.drop k).length = (k + (1 + (c.F.length - k))) := by rw [List.length_append, List.length_take, List.length_cons, List.length_drop, Nat.min_eq_left (by omega)]; omega
          have hrow := unhide HOWb
          rw [hlen] at hrow
          obtain ⟨hgbV, hcm, hob⟩ := ownsRow_own hrow (by rw [recCells_length, hGl])
          have hcb : (k + (1 + (c.F.length - k))) ≤ capb := by
            obtain ⟨_, h2⟩ := hrow
            rcases h2 with ⟨e, _⟩ | ⟨g3, cap3, cur, hv, _, _, hc3, _⟩
            · simp at e
            · simp only [Value.slice.injEq] at hv
              obtain ⟨_, _, rfl⟩ := hv
              exact hc3
          have hne1 : W.heap.size + 1 + 1 ≠ W.heap.size := by omega
          have hX := ((unhide HBx).o1.step (unhide HBb)).set 3 (.slice (some ⟨gb, 0, none⟩) (k + (1 + (c.F.length - k))) capb) (by simp)
          have hZ := farN ((unhide HBx).o3.step (unhide HBb)) hne1 3 (.slice (some ⟨gb, 0, none⟩) (k + (1 + (c.F.length - k))) capb)
          have hLW := ((unhide HBx).below.trans (Below.mono (unhide HBb) (by omega : W.heap.size ≤ X.heap.size))).setCell (p := ⟨W.heap.size, 3, none⟩) (Nat.le_refl _) (.slice (some ⟨gb, 0, none⟩) (k + (1 + (c.F.length - k))) capb)
          have hL := hLW.mono (by omega : B ≤ W.heap.size)
          have hO3 := farN hob (show gb ≠ W.heap.size by omega) 3 (.slice (some ⟨gb, 0, none⟩) (k + (1 + (c.F.length - k))) capb)
          have hP := OwnCh.withG (OwnCh.far ((unhide HOx).below (unhide HBb)) (show U ≤ W.heap.size by omega) 3 (.slice (some ⟨gb, 0, none⟩) (k + (1 + (c.F.length - k))) capb)) (by omega : U ≤ gb) (cap := capb) (G := (c.F.take k ++ (id, so, x, y, t) :: c.F.drop k)) (by rw [hGl]; exact hcb) hcm hO3
          obtain ⟨V6, e6⟩ : ∃ z, z = wb.setCell ⟨W.heap.size, 3, none⟩ (.slice (some ⟨gb, 0, none⟩) (k + (1 + (c.F.length - k))) capb) := ⟨_, rfl⟩
          rw [← e6] at hX hZ hL hLW hP ⊢
          have p0 := hX.cell (i := 0) rfl
          have p1 := hX.cell (i := 1) rfl
          have p2 := hX.cell (i := 2) rfl
          have p3 := hX.cell (i := 3) rfl
          have p4 := hX.cell (i := 4) rfl
          have d0 := hZ.cell (i := 0) rfl
          have d1 := hZ.cell (i := 1) rfl
          have d2 := hZ.cell (i := 2) rfl
          have d3 := hZ.cell (i := 3) rfl
          have d4 := hZ.cell (i := 4) rfl
          have df := hZ.frozen
          have hx1 : ¬ W.heap.size = W.heap.size + 1 + 1 := by omega
          have hx2 : ¬ W.heap.size + 1 + 1 = W.heap.size := by omega
          have HZ8 := hide (((((hZ.set 0 (.int .i64 c.wd) (by simp)).set 1 (.int .i64 c.hg) (by simp)).set 2 (.slice da c.D.length dk) (by simp)).set 3 (.slice (some ⟨gb, 0, none⟩) (k + (1 + (c.F.length - k))) capb) (by simp)).set 4 (.int .i64 c.ed) (by simp))
          have hBr : B ≤ W.heap.size + 1 + 1 := by omega
          have HP8 := hide (OwnCh.hole (OwnCh.hole (OwnCh.hole (OwnCh.hole (OwnCh.hole hP (show W.heap.size + 1 + 1 ≠ gb by omega) (show U ≤ W.heap.size + 1 + 1 by omega) 0 (.int .i64 c.wd)) (show W.heap.size + 1 + 1 ≠ gb by omega) (show U ≤ W.heap.size + 1 + 1 by omega) 1 (.int .i64 c.hg)) (show W.heap.size + 1 + 1 ≠ gb by omega) (show U ≤ W.heap.size + 1 + 1 by omega) 2 (.slice da c.D.length dk)) (show W.heap.size + 1 + 1 ≠ gb by omega) (show U ≤ W.heap.size + 1 + 1 by omega) 3 (.slice (some ⟨gb, 0, none⟩) (k + (1 + (c.F.length - k))) capb)) (show W.heap.size + 1 + 1 ≠ gb by omega) (show U ≤ W.heap.size + 1 + 1 by omega) 4 (.int .i64 c.ed))
          have HL8 := hide (Below.setCell (Below.setCell (Below.setCell (Below.setCell (Below.setCell hL (p := ⟨W.heap.size + 1 + 1, 0, none⟩) hBr (.int .i64 c.wd)) (p := ⟨W.heap.size + 1 + 1, 1, none⟩) hBr (.int .i64 c.hg)) (p := ⟨W.heap.size + 1 + 1, 2, none⟩) hBr (.slice da c.D.length dk)) (p := ⟨W.heap.size + 1 + 1, 3, none⟩) hBr (.slice (some ⟨gb, 0, none⟩) (k + (1 + (c.F.length - k))) capb)) (p := ⟨W.heap.size + 1 + 1, 4, none⟩) hBr (.int .i64 c.ed))
          have HW8 := hide (Below.setCell (Below.setCell (Below.setCell (Below.setCell (Below.setCell hLW (p := ⟨W.heap.size + 1 + 1, 0, none⟩) (show W.heap.size ≤ W.heap.size + 1 + 1 by omega) (.int .i64 c.wd)) (p := ⟨W.heap.size + 1 + 1, 1, none⟩) (show W.heap.size ≤ W.heap.size + 1 + 1 by omega) (.int .i64 c.hg)) (p := ⟨W.heap.size + 1 + 1, 2, none⟩) (show W.heap.size ≤ W.heap.size + 1 + 1 by omega) (.slice da c.D.length dk)) (p := ⟨W.heap.size + 1 + 1, 3, none⟩) (show W.heap.size ≤ W.heap.size + 1 + 1 by omega) (.slice (some ⟨gb, 0, none⟩) (k + (1 + (c.F.length - k))) capb)) (p := ⟨W.heap.size + 1 + 1, 4, none⟩) (show W.heap.size ≤ W.heap.size + 1 + 1 by omega) (.int .i64 c.ed))
          have hgbW : W.heap.size ≤ gb := by omega
          clear hX hZ hL hLW hP e6 HBx HOx hlen hrow hob hO3 HOWb HBb HBw HB1 HOW1 HN1 HN2 HN3 HR0 HR1 HLT1 HLT2 HRW H1C HOWa HBa HO2 HFq c3 c3a c3b c3c q3 q4 f0' f1' f2' f3' f4'
          go_wp2
          have q0 := (unhide HZ8).cell (i := 0) rfl
          have q1 := (unhide HZ8).cell (i := 1) rfl
          have q2 := (unhide HZ8).cell (i := 2) rfl
          have q3 := (unhide HZ8).cell (i := 3) rfl
          have q4 := (unhide HZ8).cell (i := 4) rfl
          refine bodyPost_ret (v := .tuple #[.agg #[.int .i64 c.wd, .int .i64 c.hg, .slice da c.D.length dk, .slice (some ⟨gb, 0, none⟩) (k + (1 + (c.F.length - k))) capb, .int .i64 c.ed], .bool true]) (by simp [results, Try.results70, go_sem, q0, q1, q2, q3, q4]) rfl ?_
          refine ⟨gb, capb, ?_, ?_, unhide HL8, kept_of_below (unhide HW8), Or.inr hgbW⟩
          · rw [unhide EZ]; show _ = Ending.returned (.tuple #[vChart c.wd c.hg (.slice _ _ dk) (.slice _ (c.F.take k ++ (id, so, x, y, t) :: c.F.drop k).length capb) c.ed, .bool true]); rw [hGl]; rfl
          · rw [unhide EZ]; exact OwnChG.whole (unhide HP8)
      · go_region_law (first | (refine step_append_any (by rfl) (.tmp 63) (.tmp 67) 25 (by rfl) X.heap.size 91 i1 _ 5 48 Try.underlying25 hi' hy0 hy1 hy2 rfl (by decide) X.heap.size 1 1 [.int .i64 id, .int .i64 so, .int .i64 x, .int .i64 y, .string t] (by rfl) (unhide HR0) (Nat.le_refl _) _ (c.F.length - k) _ (recCells 5 eFeature (c.F.drop k)) (by rfl) (unhide HLT2) (fun h => absurd (show c.F.length - k = 0 by omega) h) fe_one (by unfold maxLen; omega) (by omega) (by simp) ?_; intro ga capa wa howna hca hgra hata; have HBa : Hid (Below X.heap.size X wa) := ((((Below.refl X.heap.size X).alloc (Nat.le_refl _) _).drew).grown hgra (by simp) (fun g hg => by simp at hg; omega)); have HOWa := hide howna; have c3b := wcell3 c3 (unhide HBa); clear howna hgra hata))
        all_goals
          have hRWl : (([.int .i64 id, .int .i64 so, .int .i64 x, .int .i64 y, .string t] : List Value) ++ recCells 5 eFeature (c.F.drop k)).length = (1 + (c.F.length - k)) * 5 := by rw [List.length_append, recCells_length, List.length_drop]; simp; omega
          obtain ⟨hgaX, hcapa, hOga⟩ := ownsRow_own (unhide HOWa) hRWl
          have hgal := hOga.lt
          have hwaX : X.heap.size ≤ wa.heap.size := (unhide HBa).size
          have HRW := hide hRWl
          have HN3 : Hid (∀ w', Below wa.heap.size wa w' → ∀ q u, (([.int .i64 id, .int .i64 so, .int .i64 x, .int .i64 y, .string t] : List Value) ++ recCells 5 eFeature (c.F.drop k))[q]? = some u → w'.cell? ((⟨ga, 0, none⟩ : Addr).add q) = some u) := fun w' hb q u hu => by
            rw [Go.WideShapes.add_plain, Nat.zero_add]
            exact (hOga.step hb).cell hu
          have HR1 : Hid ((wa.alloc (.cells #[] 91)).ownsRow wa.heap.size 91 5 (.slice (some ⟨wa.heap.size, 0, none⟩) 0 0) 0 []) := ⟨rfl, Or.inr ⟨wa.heap.size, 0, #[], rfl, Nat.le_refl _, Go.Deep.blk_alloc_new _ _, Nat.le_refl _, Nat.zero_le _, rfl, rfl⟩⟩
          have HN1 : Hid (k ≠ 0 → ∃ ad, some (⟨gf, 0, none⟩ : Addr) = some ad ∧ ∀ q u, (recCells 5 eFeature (c.F.take k))[q]? = some u → (wa.alloc (.cells #[] 91)).cell? (ad.add q) = some u) := fun hk0 => ⟨_, rfl, fun q u hu => by
            rcases unhide HO2 with hO | hE
            · have h2 := rec_part ((hO.step (unhide HBa)).alloc (.cells #[] 91)) 0 k (by omega) q u (by rw [List.drop_zero]; exact hu)
              rw [Nat.zero_mul] at h2
              exact h2
            · rw [hE] at hu; simp [recCells] at hu⟩
          have HLT1 : Hid ((recCells 5 eFeature (c.F.take k)).length = k * 5) := by show _ = _; rw [recCells_length, List.length_take, Nat.min_eq_left (by omega)]
          have H1C : Hid (∀ u ∈ (([.int .i64 id, .int .i64 so, .int .i64 x, .int .i64 y, .string t] : List Value) ++ recCells 5 eFeature (c.F.drop k)), u.oneCell' = true) := fun u hu => by
            rcases List.mem_append.1 hu with h | h
            · simp only [List.mem_cons, List.not_mem_nil, or_false] at h
              rcases h with rfl | rfl | rfl | rfl | rfl <;> rfl
            · exact fe_one u h
          have c3c : ∀ o, (wa.alloc o).cell? ⟨W.heap.size, 3, none⟩ = some (.slice (some ⟨gf, 0, none⟩) c.F.length fk) := fun o => wcell3 c3b (Below.alloc1 wa o)
          clear hRWl hOga
          go_upto_region 12 with (at_builtin; first | (refine wpList_append_whole rfl _ _ 25 rfl wa.heap.size 91 i1 _ 5 48 Try.underlying25 hi' hy0 hy1 hy2 rfl (by decide) wa.heap.size rfl (unhide HR1) (some ⟨gf, 0, none⟩) k _ (recCells 5 eFeature (c.F.take k)) rfl (unhide HLT1) (unhide HN1) fe_one (by unfold maxLen; omega) (by omega) (by simp) ?_; intro g1 cap1 w1 hown1 hgr1 hat1; have HB1 : Hid (Below wa.heap.size wa w1) := (((Below.refl wa.heap.size wa).alloc (Nat.le_refl _) _).grown hgr1 (by simp) (fun g hg => by simp at hg; omega)); have HOW1 := hide hown1; clear hown1 hgr1 hat1) | (refine wpList_append_lies _ rfl _ _ 25 rfl wa.heap.size 91 i1 _ 5 48 Try.underlying25 hi' hy0 hy1 hy2 rfl (by decide) (.slice (some ⟨g1, 0, none⟩) k cap1) k (recCells 5 eFeature (c.F.take k)) rfl (unhide HOW1) ⟨ga, 0, none⟩ (1 + (c.F.length - k)) capa (([.int .i64 id, .int .i64 so, .int .i64 x, .int .i64 y, .string t] : List Value) ++ recCells 5 eFeature (c.F.drop k)) rfl (unhide HRW) (unhide HN3 _ (unhide HB1)) (unhide H1C) (by omega) (by unfold maxLen; omega) (by omega) (unhide HB1).size _ rfl ?_; intro gb capb wb hownb hgrb hatb hltb; have HOWb := hide hownb; have HBw : Hid (Below wa.heap.size wa wb) := ((unhide HB1).grown hgrb (unhide HB1).size (fun g hg => ((unhide HOW1).lt g hg).1)); have HBb : Hid (Below X.heap.size X wb) := Below.step (unhide HBa) (unhide HBw); have q3 := ((unhide HBx).o1.step (unhide HBb)).cell (i := 3) rfl; have q4 := ((unhide HBx).o1.step (unhide HBb)).frozen 3; clear hownb hgrb hatb))
          have hlen : recCells 5 eFeature (c.F.take k) ++ (([.int .i64 id, .int .i64 so, .int .i64 x, .int .i64 y, .string t] : List Value) ++ recCells 5 eFeature (c.F.drop k)) = recCells 5 eFeature (c.F.take k ++ (id, so, x, y, t) :: c.F.drop k) := by rw [recCells_two, show (id, so, x, y, t) :: c.F.drop k = [(id, so, x, y, t)] ++ c.F.drop k from rfl, recCells_two, recCells_one]
          have hGl : (c.F.take k ++ (id, so, x, y, t) :: c.F.drop k).length = (k + (1 + (c.F.length - k))) := by rw [List.length_append, List.length_take, List.length_cons, List.length_drop, Nat.min_eq_left (by omega)]; omega
          have hrow := unhide HOWb
          rw [hlen] at hrow
          obtain ⟨hgbV, hcm, hob⟩ := ownsRow_own hrow (by rw [recCells_length, hGl])
          have hcb : (k + (1 + (c.F.length - k))) ≤ capb := by
            obtain ⟨_, h2⟩ := hrow
            rcases h2 with ⟨e, _⟩ | ⟨g3, cap3, cur, hv, _, _, hc3, _⟩
            · simp at e
            · simp only [Value.slice.injEq] at hv
              obtain ⟨_, _, rfl⟩ := hv
              exact hc3
          have hne1 : W.heap.size + 1 + 1 ≠ W.heap.size := by omega
          have hX := ((unhide HBx).o1.step (unhide HBb)).set 3 (.slice (some ⟨gb, 0, none⟩) (k + (1 + (c.F.length - k))) capb) (by simp)
          have hZ := farN ((unhide HBx).o3.step (unhide HBb)) hne1 3 (.slice (some ⟨gb, 0, none⟩) (k + (1 + (c.F.length - k))) capb)
          have hLW := ((unhide HBx).below.trans (Below.mono (unhide HBb) (by omega : W.heap.size ≤ X.heap.size))).setCell (p := ⟨W.heap.size, 3, none⟩) (Nat.le_refl _) (.slice (some ⟨gb, 0, none⟩) (k + (1 + (c.F.length - k))) capb)
          have hL := hLW.mono (by omega : B ≤ W.heap.size)
          have hO3 := farN hob (show gb ≠ W.heap.size by omega) 3 (.slice (some ⟨gb, 0, none⟩) (k + (1 + (c.F.length - k))) capb)
          have hP := OwnCh.withG (OwnCh.far ((unhide HOx).below (unhide HBb)) (show U ≤ W.heap.size by omega) 3 (.slice (some ⟨gb, 0, none⟩) (k + (1 + (c.F.length - k))) capb)) (by omega : U ≤ gb) (cap := capb) (G := (c.F.take k ++ (id, so, x, y, t) :: c.F.drop k)) (by rw [hGl]; exact hcb) hcm hO3
          obtain ⟨V6, e6⟩ : ∃ z, z = wb.setCell ⟨W.heap.size, 3, none⟩ (.slice (some ⟨gb, 0, none⟩) (k + (1 + (c.F.length - k))) capb) := ⟨_, rfl⟩
          rw [← e6] at hX hZ hL hLW hP ⊢
          have p0 := hX.cell (i := 0) rfl
          have p1 := hX.cell (i := 1) rfl
          have p2 := hX.cell (i := 2) rfl
          have p3 := hX.cell (i := 3) rfl
          have p4 := hX.cell (i := 4) rfl
          have d0 := hZ.cell (i := 0) rfl
          have d1 := hZ.cell (i := 1) rfl
          have d2 := hZ.cell (i := 2) rfl
          have d3 := hZ.cell (i := 3) rfl
          have d4 := hZ.cell (i := 4) rfl
          have df := hZ.frozen
          have hx1 : ¬ W.heap.size = W.heap.size + 1 + 1 := by omega
          have hx2 : ¬ W.heap.size + 1 + 1 = W.heap.size := by omega
          have HZ8 := hide (((((hZ.set 0 (.int .i64 c.wd) (by simp)).set 1 (.int .i64 c.hg) (by simp)).set 2 (.slice da c.D.length dk) (by simp)).set 3 (.slice (some ⟨gb, 0, none⟩) (k + (1 + (c.F.length - k))) capb) (by simp)).set 4 (.int .i64 c.ed) (by simp))
          have hBr : B ≤ W.heap.size + 1 + 1 := by omega
          have HP8 := hide (OwnCh.hole (OwnCh.hole (OwnCh.hole (OwnCh.hole (OwnCh.hole hP (show W.heap.size + 1 + 1 ≠ gb by omega) (show U ≤ W.heap.size + 1 + 1 by omega) 0 (.int .i64 c.wd)) (show W.heap.size + 1 + 1 ≠ gb by omega) (show U ≤ W.heap.size + 1 + 1 by omega) 1 (.int .i64 c.hg)) (show W.heap.size + 1 + 1 ≠ gb by omega) (show U ≤ W.heap.size + 1 + 1 by omega) 2 (.slice da c.D.length dk)) (show W.heap.size + 1 + 1 ≠ gb by omega) (show U ≤ W.heap.size + 1 + 1 by omega) 3 (.slice (some ⟨gb, 0, none⟩) (k + (1 + (c.F.length - k))) capb)) (show W.heap.size + 1 + 1 ≠ gb by omega) (show U ≤ W.heap.size + 1 + 1 by omega) 4 (.int .i64 c.ed))
          have HL8 := hide (Below.setCell (Below.setCell (Below.setCell (Below.setCell (Below.setCell hL (p := ⟨W.heap.size + 1 + 1, 0, none⟩) hBr (.int .i64 c.wd)) (p := ⟨W.heap.size + 1 + 1, 1, none⟩) hBr (.int .i64 c.hg)) (p := ⟨W.heap.size + 1 + 1, 2, none⟩) hBr (.slice da c.D.length dk)) (p := ⟨W.heap.size + 1 + 1, 3, none⟩) hBr (.slice (some ⟨gb, 0, none⟩) (k + (1 + (c.F.length - k))) capb)) (p := ⟨W.heap.size + 1 + 1, 4, none⟩) hBr (.int .i64 c.ed))
          have HW8 := hide (Below.setCell (Below.setCell (Below.setCell (Below.setCell (Below.setCell hLW (p := ⟨W.heap.size + 1 + 1, 0, none⟩) (show W.heap.size ≤ W.heap.size + 1 + 1 by omega) (.int .i64 c.wd)) (p := ⟨W.heap.size + 1 + 1, 1, none⟩) (show W.heap.size ≤ W.heap.size + 1 + 1 by omega) (.int .i64 c.hg)) (p := ⟨W.heap.size + 1 + 1, 2, none⟩) (show W.heap.size ≤ W.heap.size + 1 + 1 by omega) (.slice da c.D.length dk)) (p := ⟨W.heap.size + 1 + 1, 3, none⟩) (show W.heap.size ≤ W.heap.size + 1 + 1 by omega) (.slice (some ⟨gb, 0, none⟩) (k + (1 + (c.F.length - k))) capb)) (p := ⟨W.heap.size + 1 + 1, 4, none⟩) (show W.heap.size ≤ W.heap.size + 1 + 1 by omega) (.int .i64 c.ed))
          have hgbW : W.heap.size ≤ gb := by omega
          clear hX hZ hL hLW hP e6 HBx HOx hlen hrow hob hO3 HOWb HBb HBw HB1 HOW1 HN1 HN2 HN3 HR0 HR1 HLT1 HLT2 HRW H1C HOWa HBa HO2 HFq c3 c3a c3b c3c q3 q4 f0' f1' f2' f3' f4'
          go_wp2
          have q0 := (unhide HZ8).cell (i := 0) rfl
          have q1 := (unhide HZ8).cell (i := 1) rfl
          have q2 := (unhide HZ8).cell (i := 2) rfl
          have q3 := (unhide HZ8).cell (i := 3) rfl
          have q4 := (unhide HZ8).cell (i := 4) rfl
          refine bodyPost_ret (v := .tuple #[.agg #[.int .i64 c.wd, .int .i64 c.hg, .slice da c.D.length dk, .slice (some ⟨gb, 0, none⟩) (k + (1 + (c.F.length - k))) capb, .int .i64 c.ed], .bool true]) (by simp [results, Try.results70, go_sem, q0, q1, q2, q3, q4]) rfl ?_
          refine ⟨gb, capb, ?_, ?_, unhide HL8, kept_of_below (unhide HW8), Or.inr hgbW⟩
          · rw [unhide EZ]; show _ = Ending.returned (.tuple #[vChart c.wd c.hg (.slice _ _ dk) (.slice _ (c.F.take k ++ (id, so, x, y, t) :: c.F.drop k).length capb) c.ed, .bool true]); rw [hGl]; rfl
          · rw [unhide EZ]; exact OwnChG.whole (unhide HP8)

end Go.Proofs.Ytmpicamenjnkkaa
