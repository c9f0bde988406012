/- The contracts of slices.Insert of one element at bills and at numbers. Written by wip/mkbll.py. -/
import Derived.Test.YtdcbonfhakdhhaaBlK
import Derived.Test.YtdcbonfhakdhhaaBlG
import Derived.Test.YtdcbonfhakdhhaaSetC
import Derived.Shelf.Spec.SlicesInsertGrow
namespace Go.Proofs.Ytdcbonfhakdhhaa
open Go.RowKit

theorem Blk.setCells {g : Nat} {T : TypeId} : ∀ (news : List Value) (off : Nat) (cs : List Value) (w : World), Blk w g T cs → off + news.length ≤ cs.length → Blk (w.setCells g off news) g T (cs.take off ++ news ++ cs.drop (off + news.length)) := by
  intro news
  induction news with
  | nil =>
    intro off cs w h hl
    have e : cs.take off ++ ([] : List Value) ++ cs.drop (off + ([] : List Value).length) = cs := by simp
    rw [e]
    exact h
  | cons v vs ih =>
    intro off cs w h hl
    simp only [List.length_cons] at hl
    have h1 := ih (off + 1) (cs.set off v) (w.setCell ⟨g, off, none⟩ v) (h.set off v) (by rw [List.length_set]; omega)
    rw [set_take (by omega), set_drop (by omega)] at h1
    have e : cs.take off ++ (v :: vs) ++ cs.drop (off + (v :: vs).length) = cs.take off ++ [v] ++ vs ++ cs.drop (off + 1 + vs.length) := by
      simp only [List.length_cons, List.append_assoc, List.cons_append, List.nil_append]
      rw [show off + (vs.length + 1) = off + 1 + vs.length by omega]
    rw [e]
    exact h1
theorem rec_take {α : Type} [Inhabited α] {n : Nat} (hn : 0 < n) (enc : α → Nat → Value) (E : List α) {i : Nat} (hi : i ≤ E.length) : (recCells n enc E).take (i * n) = recCells n enc (E.take i) ∧ (recCells n enc E).drop (i * n) = recCells n enc (E.drop i) := by
  have h := recCells_append n hn enc (E.take i) (E.drop i)
  rw [List.take_append_drop] at h
  have hl : (recCells n enc (E.take i)).length = i * n := by rw [recCells_length, List.length_take, Nat.min_eq_left hi]
  rw [h]
  exact ⟨by rw [List.take_append_of_le_length (by omega), List.take_of_length_le (by omega)], by rw [← hl, List.drop_left]⟩
theorem rec_ins {α : Type} [Inhabited α] {n : Nat} (hn : 0 < n) (enc : α → Nat → Value) (E : List α) {i : Nat} (hi : i ≤ E.length) (x : α) : recCells n enc (insL E i x) = (recCells n enc E).take (i * n) ++ (List.range n).map (enc x) ++ (recCells n enc E).drop (i * n) := by
  obtain ⟨h1, h2⟩ := rec_take hn enc E hi
  rw [h1, h2, insL, recCells_append n hn, show x :: E.drop i = [x] ++ E.drop i from rfl, recCells_append n hn, recCells_one, List.append_assoc]
/-- A whole block as a row. -/
theorem Blk.rowOf {α : Type} [Inhabited α] {w : World} {g : Nat} {T : TypeId} {vs : List Value} {n m cap : Nat} {enc : α → Nat → Value} {L : List α} (h : Blk w g T vs) (hm : L.length = m) (hc : m ≤ cap) (hx : cap ≤ maxLen) (hs : vs.length = cap * n) (ht : vs.take (m * n) = recCells n enc L) : RowB T n enc 0 w (some ⟨g, 0, none⟩) m cap L :=
  ⟨by rw [recCells_length, hm], Or.inr ⟨g, cap, _, rfl, Nat.zero_le _, h, hc, hx, by simpa using hs, by simpa using ht⟩⟩
theorem RowB.blk {α : Type} [Inhabited α] {w : World} {g : Nat} {T : TypeId} {n m cap : Nat} {enc : α → Nat → Value} {L : List α} (h : RowB T n enc 0 w (some ⟨g, 0, none⟩) m cap L) : ∃ vs, Blk w g T vs ∧ vs.length = cap * n ∧ vs.take (m * n) = recCells n enc L ∧ m ≤ cap ∧ cap ≤ maxLen := by
  rcases h.2 with ⟨e, _⟩ | ⟨g', cap', cur, e, _, hh, hc, hm, hs, ht⟩
  · cases e
  · simp only [Value.slice.injEq, Option.some.injEq, Addr.mk.injEq, and_true, true_and] at e
    obtain ⟨rfl, rfl⟩ := e
    exact ⟨cur.toList, by unfold Blk; simpa using hh, by simpa using hs, ht, hc, hm⟩
theorem run_copy_cellsK {P : Program} (w : World) (dT sT ty elem : TypeId) (k : Nat) (b o dLen dCap : Nat) (a : Addr) (sLen sCap : Nat) (cs : List Value)
    (hu : P.underlying dT = some (.slice elem)) (hs : (P.info? elem).map (·.size) = some k) (hn : cs.length = Nat.min sLen dLen * k)
    (hsrc : ∀ j v, cs[j]? = some v → w.cell? (a.add j) = some v) (hc : ∀ j, j < cs.length → (w.cell? ⟨b, o + j, none⟩).isSome = true) (hf : ∀ j, j < cs.length → w.frozen? ⟨b, o + j, none⟩ = false) (h1 : ∀ v ∈ cs, v.oneCell' = true) :
    (Builtin.copy_ #[dT, sT] ty #[.slice (some ⟨b, o, none⟩) dLen dCap, .slice (some a) sLen sCap]).run P w = .ok (goInt (Nat.min sLen dLen)) (w.setCells b o cs) := by
  have hl := run_loadCells_list (P := P) w a cs hsrc
  have hst := run_storeCells_cells (P := P) b o cs 0 w (by simpa using hc) (by simpa using hf) h1
  cases hq : P.info? elem with
  | none => simp [hq] at hs
  | some i =>
    have hi : i.size = k := by simpa [hq] using hs
    simp [Builtin.copy_, run_underlying hu, Builtin.lenOf, Builtin.firstCells, sizeOf, typeInfo, hq, hi, ← hn, hl, hst]
theorem keptC {g : Nat} {a w : World} {T : Nat → Prop} (h : Kept T a w) (hg : T g) (off : Nat) (news : List Value) : Kept T a (w.setCells g off news) := h.trans ((kept_setCells (g := g) news off w).mono fun _ _ e => e ▸ hg)
theorem keptD {a w : World} {T : Nat → Prop} (h : Kept T a w) : Kept T a w.drew := ⟨h.os, h.tape, h.output, h.size, h.block⟩

set_option maxRecDepth 100000 in
set_option maxHeartbeats 8000000 in
theorem insBill_any (g n c i vb : Nat) (E : List EBl) (x : EBl) (w : World) (h : RowB 40 5 eBl 0 w (some ⟨g, 0, none⟩) n c E) (hv : Blk w vb 40 ((List.range 5).map (eBl x))) (hne : vb ≠ g) (hi : i ≤ n) (hn : n ≤ 1048576) (h1E : ∀ v ∈ recCells 5 eBl E, v.oneCell' = true) (h1x : ∀ v ∈ (List.range 5).map (eBl x), v.oneCell' = true) :
    Calls Try.prog 86 #[.slice (some ⟨g, 0, none⟩) n c, .int .i64 (i : Int), .slice (some ⟨vb, 0, none⟩) 1 1] w fun e w' => ∃ g' c', e = .returned (.slice (some ⟨g', 0, none⟩) (n + 1) c') ∧ RowB 40 5 eBl 0 w' (some ⟨g', 0, none⟩) (n + 1) c' (insL E i x) ∧ Kept (fun b => b = g) w w' ∧ (g' = g ∨ w.heap.size ≤ g') := by
  obtain ⟨o1, hnc, hcm, hgw, hEl⟩ := h.ownG (by omega)
  unfold maxLen at hcm
  have hvw := hv.lt
  have hzn : (n : Int) + 1 ≤ 1048577 := by omega
  obtain ⟨i0, hi0, hz0, hzs, hzb⟩ := info_parts Try.infoBill
  have hsz : (Try.prog.info? 40).map (·.size) = some 5 := by rw [hi0]; simp [hzs]
  have hzf : ∀ w, (Go.sizeOf 40).run Try.prog w = .ok 5 w := fun w => by simp [Go.sizeOf, typeInfo, hi0, hzs]
  obtain ⟨VS, eVS⟩ : ∃ z, z = (List.range 5).map (eBl x) := ⟨_, rfl⟩
  have hVl : VS.length = 5 := by rw [eVS]; simp
  by_cases hin : i = n
  · subst hin
    have hE : insL E i x = E ++ [x] := by rw [insL, ← hEl, List.take_length, List.drop_length]
    rw [hE]
    have HH := hide h
    have HV := hide hv.own
    have hty : RecTy (α := EBl) 24 40 5 eBl := recTy_mk Try.underlying24 Try.infoBill rfl (by omega) (by omega) (fun x j hj => (by match j, hj with | 0, _ => rfl | 1, _ => rfl | 2, _ => rfl | 3, _ => rfl | 4, _ => rfl))
    have hz2 : ((i : Int) == (i : Int)) = true := by simp
    clear h hv o1 hE hzf hi0 hz0 hzs hzb hsz eVS hVl hgw hvw hEl h1E h1x hne
    by_cases hci : c = i
    · have hcT : (c = i) = True := eq_true hci
      have hz9 : c - i = 0 := by omega
      clear hci
      go_enter Try.func86, Try.ntmps86
      go_wp2_with (at_builtin; refine wpList_appRow hty _ rfl _ _ rfl 0 _ _ _ E rfl (unhide HH) (Nat.zero_le _) hn vb x 1 rfl (unhide HV) ?_; intro g' cap' w' hr hk _ hor; have HR := hide hr; have HK := hide hk; have HOR := hide hor; clear hr hk hor)
      go_ret
      refine ⟨g', cap', rfl, unhide HR, (unhide HK).mono fun b _ e => by simp only [Option.some.injEq, Addr.mk.injEq, and_true] at e; exact e.symm, ?_⟩
      rcases unhide HOR with e | e
      · simp only [Option.some.injEq, Addr.mk.injEq, and_true] at e; exact Or.inl e.symm
      · exact Or.inr (by omega)
    · have hcF : (c = i) = False := eq_false hci
      go_enter Try.func86, Try.ntmps86
      go_wp2_with (at_builtin; refine wpList_appRow hty _ rfl _ _ rfl 0 _ _ _ E rfl (unhide HH) (Nat.zero_le _) hn vb x 1 rfl (unhide HV) ?_; intro g' cap' w' hr hk _ hor; have HR := hide hr; have HK := hide hk; have HOR := hide hor; clear hr hk hor)
      go_ret
      refine ⟨g', cap', rfl, unhide HR, (unhide HK).mono fun b _ e => by simp only [Option.some.injEq, Addr.mk.injEq, and_true] at e; exact e.symm, ?_⟩
      rcases unhide HOR with e | e
      · simp only [Option.some.injEq, Addr.mk.injEq, and_true] at e; exact Or.inl e.symm
      · exact Or.inr (by omega)
  · have hin' : i < n := by omega
    have hzi : ((i : Int) == (n : Int)) = false := by simp; omega
    obtain ⟨CS, hCS, hcl, hct, -, -⟩ := h.blk
    have hRl : (recCells 5 eBl E).length = n * 5 := by rw [recCells_length, hEl]
    have hRI := rec_ins (n := 5) (by omega) eBl E (i := i) (by rw [hEl]; exact hi) x
    rw [← eVS] at hRI hv h1x
    obtain ⟨R, eR⟩ : ∃ z, z = recCells 5 eBl E := ⟨_, rfl⟩
    rw [← eR] at hRl hRI hct h1E o1
    have hdl : (R.drop (i * 5)).length = n * 5 - i * 5 := by rw [List.length_drop, hRl]
    have hinsl : (insL E i x).length = n + 1 := by rw [insL_len, hEl]
    have hcs : ∀ j v, R[j]? = some v → w.cell? ⟨g, j, none⟩ = some v := fun j v hj => o1.cell hj
    have hvs : ∀ j v, VS[j]? = some v → w.cell? ⟨vb, j, none⟩ = some v := fun j v hj => hv.own.cell hj
    by_cases hroom : n + 1 ≤ c
    · have hov : ∀ lb cb, (callFunc 97 #[.slice (some ⟨vb, 0, none⟩) 1 1, .slice (some ⟨g, (i + 1) * 5, none⟩) lb cb]).run Try.prog w = .ok (.value (.bool false)) w := fun lb cb => by
        have hshA : w.shape? vb = some (40, VS.length) := by unfold World.shape?; rw [show w.heap[vb]? = some (.cells VS.toArray 40 (0, 0)) from hv]; simp
        have hshB : w.shape? g = some (40, CS.length) := by unfold World.shape?; rw [show w.heap[g]? = some (.cells CS.toArray 40 (0, 0)) from hCS]; simp
        rw [run_callFunc_extern Try.func97 (by kernel_rfl) (by kernel_rfl) (by kernel_rfl) (e := Extern.SlicesOverlaps.overlaps #[24, 24] #[4]) (by kernel_rfl),
          Lib.run_overlaps_apart w 24 4 40 Try.underlying24 5 hzf ⟨vb, 0, none⟩ ⟨g, (i + 1) * 5, none⟩ 1 1 lb cb hne _ _ _ _ hshA hshB (by rw [hcl]; omega) (hv.own.frozen 0) (hv.own.frozen _)]
        rfl
      have hcp1 : ∀ ty dc sc, (Builtin.copy_ #[24, 24] ty #[.slice (some ⟨g, (i + 1) * 5, none⟩) (n - i) dc, .slice (some ⟨g, i * 5, none⟩) (n + 1 - i) sc]).run Try.prog w.drew = .ok (goInt (Nat.min (n + 1 - i) (n - i))) (w.drew.setCells g ((i + 1) * 5) (R.drop (i * 5))) := fun ty dc sc =>
        run_copy_cellsK w.drew _ _ ty 40 5 g ((i + 1) * 5) (n - i) dc ⟨g, i * 5, none⟩ (n + 1 - i) sc (R.drop (i * 5)) Try.underlying24 hsz (by rw [hdl]; simp only [Nat.min_def]; split <;> omega)
          (fun j v hj => by rw [Addr.add_lit]; exact hcs _ v (by rwa [List.getElem?_drop] at hj))
          (fun j hj => by
            rw [hdl] at hj
            have hq : (i + 1) * 5 + j < CS.length := by rw [hcl]; omega
            exact Option.isSome_iff_exists.2 ⟨_, hCS.own.cell (List.getElem?_eq_getElem hq)⟩) (fun j hj => hCS.own.frozen _) (fun v hv => h1E v (List.mem_of_mem_drop hv))
      obtain ⟨W1, hW1⟩ : ∃ W1, W1 = w.drew.setCells g ((i + 1) * 5) (R.drop (i * 5)) := ⟨_, rfl⟩
      have hB1 : Blk W1 g 40 (CS.take ((i + 1) * 5) ++ R.drop (i * 5) ++ CS.drop ((i + 1) * 5 + (R.drop (i * 5)).length)) := by
        rw [hW1]
        exact Blk.setCells _ _ _ _ (show Blk w.drew g 40 CS from hCS) (by rw [hdl, hcl]; omega)
      have hl1 : (CS.take ((i + 1) * 5) ++ R.drop (i * 5) ++ CS.drop ((i + 1) * 5 + (R.drop (i * 5)).length)).length = CS.length := by
        simp only [List.length_append, List.length_take, List.length_drop, hRl]
        rw [hcl]
        omega
      have hK1 : Kept (fun b => b = g) w W1 := by rw [hW1]; exact keptC (T := fun b => b = g) (keptD (Kept.refl _ _)) rfl _ _
      have hcp2 : ∀ (W : World), (∀ y, W.cell? y = W1.cell? y) → (∀ y, W.frozen? y = W1.frozen? y) → ∀ ty dc, (Builtin.copy_ #[24, 24] ty #[.slice (some ⟨g, i * 5, none⟩) (n + 1 - i) dc, .slice (some ⟨vb, 0, none⟩) 1 1]).run Try.prog W = .ok (goInt (Nat.min 1 (n + 1 - i))) (W.setCells g (i * 5) VS) := fun W hWc hWf ty dc =>
        run_copy_cellsK W _ _ ty 40 5 g (i * 5) (n + 1 - i) dc ⟨vb, 0, none⟩ 1 1 VS Try.underlying24 hsz (by rw [hVl]; simp only [Nat.min_def]; split <;> omega)
          (fun j v hj => by
            rw [Addr.add_lit, hWc, Nat.zero_add]
            exact (World.cell?_of_block (a := ⟨vb, j, none⟩) (hK1.block vb hvw hne)).trans (hvs j v hj))
          (fun j hj => by
            rw [hVl] at hj
            rw [hWc]
            exact Option.isSome_iff_exists.2 ⟨_, hB1.own.cell (List.getElem?_eq_getElem (by rw [hl1, hcl]; omega))⟩) (fun j hj => by rw [hWf]; exact hB1.own.frozen _) h1x
      have HF : Hid (∀ W : World, W.heap = W1.heap → RowB 40 5 eBl 0 (W.setCells g (i * 5) VS) (some ⟨g, 0, none⟩) (n + 1) c (insL E i x)) := fun W hW => by
        have hB : Blk W g 40 (CS.take ((i + 1) * 5) ++ R.drop (i * 5) ++ CS.drop ((i + 1) * 5 + (R.drop (i * 5)).length)) := by unfold Blk; rw [hW]; exact hB1
        have hB2 := Blk.setCells VS (i * 5) _ W hB (by rw [hl1, hcl, hVl]; omega)
        refine hB2.rowOf hinsl hroom (by unfold maxLen; omega) ?_ ?_
        · simp only [List.length_append, List.length_take, List.length_drop, hRl, hVl]
          rw [hcl]
          omega
        · rw [hRI]
          have e1 : (CS.take ((i + 1) * 5) ++ R.drop (i * 5) ++ CS.drop ((i + 1) * 5 + (R.drop (i * 5)).length)).take (i * 5) = R.take (i * 5) := by
            rw [List.append_assoc, List.take_append_of_le_length (by rw [List.length_take, hcl]; omega), List.take_take, ← hct, List.take_take]
            congr 1
            omega
          have e2 : (CS.take ((i + 1) * 5) ++ R.drop (i * 5) ++ CS.drop ((i + 1) * 5 + (R.drop (i * 5)).length)).drop (i * 5 + VS.length) = R.drop (i * 5) ++ CS.drop ((i + 1) * 5 + (R.drop (i * 5)).length) := by
            have hlt : (CS.take ((i + 1) * 5)).length = i * 5 + VS.length := by rw [List.length_take, hcl, hVl]; omega
            rw [← hlt, List.append_assoc, List.drop_left]
          rw [e1, e2, ← List.append_assoc, List.take_append_of_le_length (by simp only [List.length_append, List.length_take, List.length_drop, hRl, hVl]; omega), List.take_of_length_le (by simp only [List.length_append, List.length_take, List.length_drop, hRl, hVl]; omega)]
      have HK := hide fun W (hk : Kept (fun b => b = g) w W) => keptC hk (show (fun b => b = g) g from rfl) (i * 5) VS
      have HK1 := hide hK1
      have HE1 : Hid (W1 = w.drew.setCells g ((i + 1) * 5) (R.drop (i * 5))) := hW1
      rw [← hW1] at hcp1
      have hw1 : IntKind.i64.wrap ((i : Int) + 1) = (i : Int) + 1 := by rw [IntKind.wrap_i64]; omega
      have hw2 : IntKind.i64.wrap ((n : Int) + 1) = (n : Int) + 1 := by rw [IntKind.wrap_i64]; omega
      have hb1 : (0 : Int) ≤ (i : Int) + 1 := by omega
      have htn : ((i : Int) + 1).toNat = i + 1 := by omega
      have htm : ((n : Int) + 1).toNat = n + 1 := by omega
      have hb2 : ¬ (c = i + 1) := by omega
      have hb3 : (i : Int) ≤ (n : Int) + 1 := by omega
      have hb4 : ¬ (c = i) := by omega
      have hb5 : ¬ ((c : Int) < (n : Int) + 1) := by omega
      have hb6 : decide ((c : Int) < (n : Int) + 1) = false := by rw [decide_eq_false_iff_not]; omega
      clear h hv o1 hRI hB1 hl1 hK1 hCS hcl hct hinsl hdl hRl hcs hvs eR eVS hVl h1E h1x hW1 hzf hsz hi0 hz0 hzs hzb
      go_enter Try.func86, Try.ntmps86
      go_wp2_with (simp only [hov])
      go_region_law (refine step_copy_runI rfl _ _ 24 24 rfl _ _ (by simp [Act.eval, Act.put]) (by simp [Act.eval, Act.put]) (hcp1 _ _ _) ?_)
      go_wp2_with (at_builtin; refine wpList_copy_runI _ rfl _ _ 24 24 rfl _ _ rfl rfl (hcp2 _ (fun _ => rfl) (fun _ => rfl) _ _) ?_)
      go_ret
      first | exact ⟨g, c, rfl, unhide HF _ rfl, unhide HK _ (unhide HK1), Or.inl rfl⟩ | exact ⟨g, c, rfl, unhide HF _ rfl, unhide HK _ (keptD (unhide HK1)), Or.inl rfl⟩
    · have hcn : c = n := by omega
      obtain ⟨G, hG⟩ : ∃ G, G = grownCap w (n + 1) c 40 := ⟨_, rfl⟩
      have hbig : (n + 1) * 72 ≤ 140737488355328 := by omega
      have hik : i + (n + 1 - i) = n + 1 := by omega
      have hkk : (n : Int) + 1 - (i : Int) = ((n + 1 - i : Nat) : Int) := by omega
      have hold : (Builtin.firstCells i0.size i (.slice (some ⟨g, 0, none⟩) i c)).run Try.prog w.drew = .ok (R.take (i * 5)).toArray w.drew := by
        rw [hzs]
        exact run_firstCells_some w.drew 5 i ⟨g, 0, none⟩ i c (R.take (i * 5)) (by rw [List.length_take, hRl]; omega) (fun j v hj => by
          rw [Addr.add_lit, Nat.zero_add]
          rw [List.getElem?_take] at hj
          split at hj
          · exact hcs j v hj
          · cases hj)
      obtain ⟨Z, eZ⟩ : ∃ z : Value, z = vBill 0 ⟨#[]⟩ ⟨#[]⟩ 0 (.slice none 0 0) := ⟨_, rfl⟩
      have hzc : Z.cells.size = 5 := by rw [eZ]; rfl
      rw [← eZ] at hz0
      have hrz : ∀ ty, (Builtin.append_ #[24, 3] ty #[.slice (some ⟨g, 0, none⟩) i c, .int .i64 ((n : Int) + 1 - (i : Int))]).run Try.prog w =
          .ok (.slice (some ⟨w.heap.size, 0, none⟩) (n + 1) (grownCap w (n + 1) c 40)) (w.drew.alloc (.cells ((R.take (i * 5)).toArray ++ Builtin.zeroCells Z.cells (n + 1 - i) ++ Builtin.zeroCells Z.cells (grownCap w (n + 1) c 40 - (n + 1))) 40)) := fun ty => by
        have h := Lib.run_append_grow_zeros w 24 3 ty 40 i0 Z .i64 .i64 Try.underlying24 Try.underlying3 hi0 hz0 (some ⟨g, 0, none⟩) i c (R.take (i * 5)) hold (n + 1 - i) (by omega) (by rw [hzs]; omega) (by omega) (by omega) (by rw [hzb]; omega) (by rw [hzb, hik]; exact growslice_fits (by omega) hbig)
        rw [hik] at h
        rw [hkk]
        exact h
      have hGn : n + 1 ≤ G := by rw [hG]; exact grownCap_ge w _ _ _
      have hG63 : G ≤ 9223372036854775807 := by
        have := grownCap_le_maxLen w (n + 1) c 40 (by unfold maxLen; omega)
        rw [← hG] at this
        unfold maxLen at this
        omega
      rw [← hG] at hrz
      obtain ⟨ZL, eZL⟩ : ∃ z : List Value, z = (Builtin.zeroCells Z.cells (n + 1 - i)).toList ++ (Builtin.zeroCells Z.cells (G - (n + 1))).toList := ⟨_, rfl⟩
      have hZl : ZL.length = (G - i) * 5 := by
        rw [eZL]
        simp only [List.length_append, Array.length_toList, Builtin.zeroCells, Array.size_map, Array.size_range, hzc]
        omega
      obtain ⟨ROW, eROW⟩ : ∃ r : List Value, r = R.take (i * 5) ++ ZL := ⟨_, rfl⟩
      have hRA : (R.take (i * 5)).toArray ++ Builtin.zeroCells Z.cells (n + 1 - i) ++ Builtin.zeroCells Z.cells (G - (n + 1)) = ROW.toArray := by
        rw [eROW, eZL]
        apply Array.toList_inj.1
        simp
      rw [hRA] at hrz
      have hAl : (R.take (i * 5)).length = i * 5 := by rw [List.length_take, hRl]; omega
      have hROWl : ROW.length = G * 5 := by rw [eROW, List.length_append, hAl, hZl]; omega
      obtain ⟨W1, hW1⟩ : ∃ W1, W1 = w.drew.alloc (.cells ROW.toArray 40) := ⟨_, rfl⟩
      rw [← hW1] at hrz
      have hA1 : Below w.heap.size w W1 := by rw [hW1]; exact Below.step (Below.refl _ _).drew (Below.alloc1 _ _)
      have hB1 : Blk W1 w.heap.size 40 ROW := by rw [hW1]; exact Go.Deep.blk_alloc_new w.drew _
      have hB2 : ∀ W : World, W.heap = W1.heap → Blk (W.setCells w.heap.size (i * 5) VS) w.heap.size 40 (R.take (i * 5) ++ VS ++ ZL.drop 5) := fun W hW => by
        have h9 := Blk.setCells VS (i * 5) ROW W (by unfold Blk; rw [hW]; exact hB1) (by rw [hROWl, hVl]; omega)
        rwa [eROW, List.take_append_of_le_length (by omega), List.take_of_length_le (by omega), hVl, show i * 5 + 5 = (R.take (i * 5)).length + 5 by rw [hAl], List.drop_append, show (R.take (i * 5)).length + 5 - (R.take (i * 5)).length = 5 by omega, List.drop_eq_nil_of_le (by omega), List.nil_append] at h9
      have hl2 : (R.take (i * 5) ++ VS ++ ZL.drop 5).length = G * 5 := by simp only [List.length_append, List.length_drop, hAl, hVl, hZl]; omega
      have hcpA : ∀ (W : World), W.heap = W1.heap → ∀ ty dc, (Builtin.copy_ #[24, 24] ty #[.slice (some ⟨w.heap.size, i * 5, none⟩) (n + 1 - i) dc, .slice (some ⟨vb, 0, none⟩) 1 1]).run Try.prog W = .ok (goInt (Nat.min 1 (n + 1 - i))) (W.setCells w.heap.size (i * 5) VS) := fun W hW ty dc => by
        have hBW : Blk W w.heap.size 40 ROW := by unfold Blk; rw [hW]; exact hB1
        refine run_copy_cellsK W _ _ ty 40 5 w.heap.size (i * 5) (n + 1 - i) dc ⟨vb, 0, none⟩ 1 1 VS Try.underlying24 hsz (by rw [hVl]; simp only [Nat.min_def]; split <;> omega)
          (fun j v hj => ?_) (fun j hj => ?_) (fun j hj => hBW.own.frozen _) h1x
        · rw [Addr.add_lit, Nat.zero_add]
          exact (World.cell?_of_block (w := w) (a := ⟨vb, j, none⟩) (by rw [hW]; exact hA1.block vb hvw)).trans (hvs j v hj)
        · rw [hVl] at hj
          exact Option.isSome_iff_exists.2 ⟨_, hBW.own.cell (List.getElem?_eq_getElem (by rw [hROWl]; omega))⟩
      have hcpB : ∀ (W W' : World), W'.heap = W1.heap → W.heap = (W'.setCells w.heap.size (i * 5) VS).heap → ∀ ty dc sc, (Builtin.copy_ #[24, 24] ty #[.slice (some ⟨w.heap.size, (i + 1) * 5, none⟩) (n - i) dc, .slice (some ⟨g, i * 5, none⟩) (n - i) sc]).run Try.prog W = .ok (goInt (Nat.min (n - i) (n - i))) (W.setCells w.heap.size ((i + 1) * 5) (R.drop (i * 5))) := fun W W' hW' hW ty dc sc => by
        have hBW : Blk W w.heap.size 40 (R.take (i * 5) ++ VS ++ ZL.drop 5) := by unfold Blk; rw [hW]; exact hB2 W' hW'
        refine run_copy_cellsK W _ _ ty 40 5 w.heap.size ((i + 1) * 5) (n - i) dc ⟨g, i * 5, none⟩ (n - i) sc (R.drop (i * 5)) Try.underlying24 hsz (by rw [hdl]; simp only [Nat.min_def]; split <;> omega)
          (fun j v hj => ?_) (fun j hj => ?_) (fun j hj => hBW.own.frozen _) (fun v hv => h1E v (List.mem_of_mem_drop hv))
        · rw [Addr.add_lit]
          have hk9 := kept_setCells (g := w.heap.size) VS (i * 5) W'
          have hb9 : W.heap[g]? = w.heap[g]? := by
            rw [hW, hk9.block g (by rw [hW']; exact Nat.lt_of_lt_of_le hgw hA1.size) (by omega), hW']
            exact hA1.block g hgw
          exact (World.cell?_of_block (w := w) (a := ⟨g, i * 5 + j, none⟩) hb9).trans (hcs _ v (by rwa [List.getElem?_drop] at hj))
        · rw [hdl] at hj
          exact Option.isSome_iff_exists.2 ⟨_, hBW.own.cell (List.getElem?_eq_getElem (by rw [hl2]; omega))⟩
      have HF : Hid (∀ W W' : World, W'.heap = W1.heap → W.heap = (W'.setCells w.heap.size (i * 5) VS).heap → RowB 40 5 eBl 0 (W.setCells w.heap.size ((i + 1) * 5) (R.drop (i * 5))) (some ⟨w.heap.size, 0, none⟩) (n + 1) G (insL E i x)) := fun W W' hW' hW => by
        have hBW : Blk W w.heap.size 40 (R.take (i * 5) ++ VS ++ ZL.drop 5) := by unfold Blk; rw [hW]; exact hB2 W' hW'
        have hB3 := Blk.setCells (R.drop (i * 5)) ((i + 1) * 5) _ W hBW (by rw [hl2, hdl]; omega)
        refine hB3.rowOf hinsl hGn (by unfold maxLen; omega) ?_ ?_
        · simp only [List.length_append, List.length_take, List.length_drop, hRl, hVl, hZl]
          omega
        · rw [hRI]
          have e1 : (R.take (i * 5) ++ VS ++ ZL.drop 5).take ((i + 1) * 5) = R.take (i * 5) ++ VS := by
            rw [List.take_append_of_le_length (by rw [List.length_append, hAl, hVl]; omega), List.take_of_length_le (by rw [List.length_append, hAl, hVl]; omega)]
          rw [e1, List.take_append_of_le_length (by simp only [List.length_append, hAl, hVl, hdl]; omega), List.take_of_length_le (by simp only [List.length_append, hAl, hVl, hdl]; omega)]
      have HK : Hid (∀ W W' : World, Below w.heap.size w W' → W.heap = (W'.setCells w.heap.size (i * 5) VS).heap → W.os = W'.os → W.tape = W'.tape → W.output = W'.output → Kept (fun b => b = g) w (W.setCells w.heap.size ((i + 1) * 5) (R.drop (i * 5)))) := fun W W' h1 h2 h3 h4 h5 => by
        have k1 := kept_setCells (g := w.heap.size) VS (i * 5) W'
        have k2 := kept_setCells (g := w.heap.size) (R.drop (i * 5)) ((i + 1) * 5) W
        have hs1 : w.heap.size ≤ W.heap.size := by rw [h2]; exact Nat.le_trans h1.size k1.size
        refine ⟨k2.os.trans (h3.trans h1.os), k2.tape.trans (h4.trans h1.tape), k2.output.trans (h5.trans h1.output), Nat.le_trans hs1 k2.size, fun b hb hnb => ?_⟩
        rw [k2.block b (Nat.lt_of_lt_of_le hb hs1) (by omega), h2, k1.block b (Nat.lt_of_lt_of_le hb h1.size) (by omega)]
        exact h1.block b hb
      have HA1 := hide hA1
      have hGi : ¬ (G = i) := by omega
      have hGim : ¬ (G = i + 1) := by omega
      have hci : ¬ (c = i) := by omega
      have hw1 : IntKind.i64.wrap ((i : Int) + 1) = (i : Int) + 1 := by rw [IntKind.wrap_i64]; omega
      have hw2 : IntKind.i64.wrap ((n : Int) + 1) = (n : Int) + 1 := by rw [IntKind.wrap_i64]; omega
      have hw3 : IntKind.i64.wrap ((n : Int) + 1 - (i : Int)) = (n : Int) + 1 - (i : Int) := by rw [IntKind.wrap_i64]; omega
      have hb1 : (0 : Int) ≤ (i : Int) + 1 := by omega
      have htn : ((i : Int) + 1).toNat = i + 1 := by omega
      have hb3 : (i : Int) ≤ (n : Int) := by omega
      have hz3 : (c : Int) < (n : Int) + 1 := by omega
      have hb6 : decide ((c : Int) < (n : Int) + 1) = true := by rw [decide_eq_true_eq]; omega
      have hbN : ¬ g = w.heap.size := by omega
      subst hW1
      have hE1 : ((w.alloc (.cells ROW.toArray 40)).drew).heap = (w.drew.alloc (.cells ROW.toArray 40)).heap := rfl
      have hF1 : (((w.alloc (.cells ROW.toArray 40)).drew.setCells w.heap.size (i * 5) VS).drew).heap = ((w.alloc (.cells ROW.toArray 40)).drew.setCells w.heap.size (i * 5) VS).heap := rfl
      have HA2 : Hid (Below w.heap.size w (w.alloc (.cells ROW.toArray 40)).drew) := (Below.alloc1 _ _).drew
      have HKO : Hid (∀ vs o (V : World), (V.setCells w.heap.size o vs).os = V.os ∧ (V.setCells w.heap.size o vs).tape = V.tape ∧ (V.setCells w.heap.size o vs).output = V.output) := fun vs o V => by
        have := kept_setCells (g := w.heap.size) vs o V
        exact ⟨this.os, this.tape, this.output⟩
      clear h hv o1 hRI hB1 hB2 hl2 hCS hcl hct hinsl hdl hRl hcs hvs eR eVS hVl h1E h1x hzf hsz hi0 hz0 hzs hzb hold hRA eROW eZL hZl hAl hROWl hG hcn hbig hA1 hkk hik eZ hzc hzn
      go_enter Try.func86, Try.ntmps86
      go_wp2_with (first
        | (at_builtin; refine Lib.wpList_append_run _ rfl _ _ _ _ rfl _ _ rfl rfl _ _ (hrz _) ?_)
        | (at_builtin; refine wpList_copy_runI _ rfl _ _ 24 24 rfl _ _ rfl rfl (hcpA _ hE1 _ _) ?_))
      go_region_law (refine step_copy_runI rfl _ _ 24 24 rfl (.slice (some ⟨w.heap.size, (i + 1) * 5, none⟩) (n - i) (G - (i + 1))) (.slice (some ⟨g, i * 5, none⟩) (n - i) (c - i)) (by simp [Act.eval, Act.put]) (by simp [Act.eval, Act.put]) (hcpB _ _ hE1 hF1 3 (G - (i + 1)) (c - i)) ?_)
      go_wp2
      go_ret
      have hq := unhide HKO VS (i * 5) (w.alloc (.cells ROW.toArray 40)).drew
      exact ⟨w.heap.size, G, rfl, unhide HF _ _ hE1 hF1, unhide HK _ _ (unhide HA2) hF1 hq.1 hq.2.1 hq.2.2, Or.inr (Nat.le_refl _)⟩

set_option maxRecDepth 100000 in
set_option maxHeartbeats 8000000 in
theorem insI_any (g n c i vb : Nat) (E : List Int) (x : Int) (w : World) (h : RowB 3 1 eI 0 w (some ⟨g, 0, none⟩) n c E) (hv : Blk w vb 3 ((List.range 1).map (eI x))) (hne : vb ≠ g) (hi : i ≤ n) (hn : n ≤ 1048576) (h1E : ∀ v ∈ recCells 1 eI E, v.oneCell' = true) (h1x : ∀ v ∈ (List.range 1).map (eI x), v.oneCell' = true) :
    Calls Try.prog 103 #[.slice (some ⟨g, 0, none⟩) n c, .int .i64 (i : Int), .slice (some ⟨vb, 0, none⟩) 1 1] w fun e w' => ∃ g' c', e = .returned (.slice (some ⟨g', 0, none⟩) (n + 1) c') ∧ RowB 3 1 eI 0 w' (some ⟨g', 0, none⟩) (n + 1) c' (insL E i x) ∧ Kept (fun b => b = g) w w' ∧ (g' = g ∨ w.heap.size ≤ g') := by
  obtain ⟨o1, hnc, hcm, hgw, hEl⟩ := h.ownG (by omega)
  unfold maxLen at hcm
  have hvw := hv.lt
  have hzn : (n : Int) + 1 ≤ 1048577 := by omega
  obtain ⟨i0, hi0, hz0, hzs, hzb⟩ := info_parts Try.infoI
  have hsz : (Try.prog.info? 3).map (·.size) = some 1 := by rw [hi0]; simp [hzs]
  have hzf : ∀ w, (Go.sizeOf 3).run Try.prog w = .ok 1 w := fun w => by simp [Go.sizeOf, typeInfo, hi0, hzs]
  obtain ⟨VS, eVS⟩ : ∃ z, z = (List.range 1).map (eI x) := ⟨_, rfl⟩
  have hVl : VS.length = 1 := by rw [eVS]; simp
  by_cases hin : i = n
  · subst hin
    have hE : insL E i x = E ++ [x] := by rw [insL, ← hEl, List.take_length, List.drop_length]
    rw [hE]
    have HH := hide h
    have HV := hide hv.own
    have hty : RecTy (α := Int) 25 3 1 eI := recTy_mk Try.underlying25 Try.infoI rfl (by omega) (by omega) (fun x j hj => rfl)
    have hz2 : ((i : Int) == (i : Int)) = true := by simp
    clear h hv o1 hE hzf hi0 hz0 hzs hzb hsz eVS hVl hgw hvw hEl h1E h1x hne
    by_cases hci : c = i
    · have hcT : (c = i) = True := eq_true hci
      have hz9 : c - i = 0 := by omega
      clear hci
      go_enter Try.func103, Try.ntmps103
      go_wp2_with (at_builtin; refine wpList_appRow hty _ rfl _ _ rfl 0 _ _ _ E rfl (unhide HH) (Nat.zero_le _) hn vb x 1 rfl (unhide HV) ?_; intro g' cap' w' hr hk _ hor; have HR := hide hr; have HK := hide hk; have HOR := hide hor; clear hr hk hor)
      go_ret
      refine ⟨g', cap', rfl, unhide HR, (unhide HK).mono fun b _ e => by simp only [Option.some.injEq, Addr.mk.injEq, and_true] at e; exact e.symm, ?_⟩
      rcases unhide HOR with e | e
      · simp only [Option.some.injEq, Addr.mk.injEq, and_true] at e; exact Or.inl e.symm
      · exact Or.inr (by omega)
    · have hcF : (c = i) = False := eq_false hci
      go_enter Try.func103, Try.ntmps103
      go_wp2_with (at_builtin; refine wpList_appRow hty _ rfl _ _ rfl 0 _ _ _ E rfl (unhide HH) (Nat.zero_le _) hn vb x 1 rfl (unhide HV) ?_; intro g' cap' w' hr hk _ hor; have HR := hide hr; have HK := hide hk; have HOR := hide hor; clear hr hk hor)
      go_ret
      refine ⟨g', cap', rfl, unhide HR, (unhide HK).mono fun b _ e => by simp only [Option.some.injEq, Addr.mk.injEq, and_true] at e; exact e.symm, ?_⟩
      rcases unhide HOR with e | e
      · simp only [Option.some.injEq, Addr.mk.injEq, and_true] at e; exact Or.inl e.symm
      · exact Or.inr (by omega)
  · have hin' : i < n := by omega
    have hzi : ((i : Int) == (n : Int)) = false := by simp; omega
    obtain ⟨CS, hCS, hcl, hct, -, -⟩ := h.blk
    have hRl : (recCells 1 eI E).length = n * 1 := by rw [recCells_length, hEl]
    have hRI := rec_ins (n := 1) (by omega) eI E (i := i) (by rw [hEl]; exact hi) x
    rw [← eVS] at hRI hv h1x
    obtain ⟨R, eR⟩ : ∃ z, z = recCells 1 eI E := ⟨_, rfl⟩
    rw [← eR] at hRl hRI hct h1E o1
    have hdl : (R.drop (i * 1)).length = n * 1 - i * 1 := by rw [List.length_drop, hRl]
    have hinsl : (insL E i x).length = n + 1 := by rw [insL_len, hEl]
    have hcs : ∀ j v, R[j]? = some v → w.cell? ⟨g, j, none⟩ = some v := fun j v hj => o1.cell hj
    have hvs : ∀ j v, VS[j]? = some v → w.cell? ⟨vb, j, none⟩ = some v := fun j v hj => hv.own.cell hj
    by_cases hroom : n + 1 ≤ c
    · have hov : ∀ lb cb, (callFunc 108 #[.slice (some ⟨vb, 0, none⟩) 1 1, .slice (some ⟨g, (i + 1) * 1, none⟩) lb cb]).run Try.prog w = .ok (.value (.bool false)) w := fun lb cb => by
        have hshA : w.shape? vb = some (3, VS.length) := by unfold World.shape?; rw [show w.heap[vb]? = some (.cells VS.toArray 3 (0, 0)) from hv]; simp
        have hshB : w.shape? g = some (3, CS.length) := by unfold World.shape?; rw [show w.heap[g]? = some (.cells CS.toArray 3 (0, 0)) from hCS]; simp
        rw [run_callFunc_extern Try.func108 (by kernel_rfl) (by kernel_rfl) (by kernel_rfl) (e := Extern.SlicesOverlaps.overlaps #[25, 25] #[4]) (by kernel_rfl),
          Lib.run_overlaps_apart w 25 4 3 Try.underlying25 1 hzf ⟨vb, 0, none⟩ ⟨g, (i + 1) * 1, none⟩ 1 1 lb cb hne _ _ _ _ hshA hshB (by rw [hcl]; omega) (hv.own.frozen 0) (hv.own.frozen _)]
        rfl
      have hcp1 : ∀ ty dc sc, (Builtin.copy_ #[25, 25] ty #[.slice (some ⟨g, (i + 1) * 1, none⟩) (n - i) dc, .slice (some ⟨g, i * 1, none⟩) (n + 1 - i) sc]).run Try.prog w.drew = .ok (goInt (Nat.min (n + 1 - i) (n - i))) (w.drew.setCells g ((i + 1) * 1) (R.drop (i * 1))) := fun ty dc sc =>
        run_copy_cellsK w.drew _ _ ty 3 1 g ((i + 1) * 1) (n - i) dc ⟨g, i * 1, none⟩ (n + 1 - i) sc (R.drop (i * 1)) Try.underlying25 hsz (by rw [hdl]; simp only [Nat.min_def]; split <;> omega)
          (fun j v hj => by rw [Addr.add_lit]; exact hcs _ v (by rwa [List.getElem?_drop] at hj))
          (fun j hj => by
            rw [hdl] at hj
            have hq : (i + 1) * 1 + j < CS.length := by rw [hcl]; omega
            exact Option.isSome_iff_exists.2 ⟨_, hCS.own.cell (List.getElem?_eq_getElem hq)⟩) (fun j hj => hCS.own.frozen _) (fun v hv => h1E v (List.mem_of_mem_drop hv))
      obtain ⟨W1, hW1⟩ : ∃ W1, W1 = w.drew.setCells g ((i + 1) * 1) (R.drop (i * 1)) := ⟨_, rfl⟩
      have hB1 : Blk W1 g 3 (CS.take ((i + 1) * 1) ++ R.drop (i * 1) ++ CS.drop ((i + 1) * 1 + (R.drop (i * 1)).length)) := by
        rw [hW1]
        exact Blk.setCells _ _ _ _ (show Blk w.drew g 3 CS from hCS) (by rw [hdl, hcl]; omega)
      have hl1 : (CS.take ((i + 1) * 1) ++ R.drop (i * 1) ++ CS.drop ((i + 1) * 1 + (R.drop (i * 1)).length)).length = CS.length := by
        simp only [List.length_append, List.length_take, List.length_drop, hRl]
        rw [hcl]
        omega
      have hK1 : Kept (fun b => b = g) w W1 := by rw [hW1]; exact keptC (T := fun b => b = g) (keptD (Kept.refl _ _)) rfl _ _
      have hcp2 : ∀ (W : World), (∀ y, W.cell? y = W1.cell? y) → (∀ y, W.frozen? y = W1.frozen? y) → ∀ ty dc, (Builtin.copy_ #[25, 25] ty #[.slice (some ⟨g, i * 1, none⟩) (n + 1 - i) dc, .slice (some ⟨vb, 0, none⟩) 1 1]).run Try.prog W = .ok (goInt (Nat.min 1 (n + 1 - i))) (W.setCells g (i * 1) VS) := fun W hWc hWf ty dc =>
        run_copy_cellsK W _ _ ty 3 1 g (i * 1) (n + 1 - i) dc ⟨vb, 0, none⟩ 1 1 VS Try.underlying25 hsz (by rw [hVl]; simp only [Nat.min_def]; split <;> omega)
          (fun j v hj => by
            rw [Addr.add_lit, hWc, Nat.zero_add]
            exact (World.cell?_of_block (a := ⟨vb, j, none⟩) (hK1.block vb hvw hne)).trans (hvs j v hj))
          (fun j hj => by
            rw [hVl] at hj
            rw [hWc]
            exact Option.isSome_iff_exists.2 ⟨_, hB1.own.cell (List.getElem?_eq_getElem (by rw [hl1, hcl]; omega))⟩) (fun j hj => by rw [hWf]; exact hB1.own.frozen _) h1x
      have HF : Hid (∀ W : World, W.heap = W1.heap → RowB 3 1 eI 0 (W.setCells g (i * 1) VS) (some ⟨g, 0, none⟩) (n + 1) c (insL E i x)) := fun W hW => by
        have hB : Blk W g 3 (CS.take ((i + 1) * 1) ++ R.drop (i * 1) ++ CS.drop ((i + 1) * 1 + (R.drop (i * 1)).length)) := by unfold Blk; rw [hW]; exact hB1
        have hB2 := Blk.setCells VS (i * 1) _ W hB (by rw [hl1, hcl, hVl]; omega)
        refine hB2.rowOf hinsl hroom (by unfold maxLen; omega) ?_ ?_
        · simp only [List.length_append, List.length_take, List.length_drop, hRl, hVl]
          rw [hcl]
          omega
        · rw [hRI]
          have e1 : (CS.take ((i + 1) * 1) ++ R.drop (i * 1) ++ CS.drop ((i + 1) * 1 + (R.drop (i * 1)).length)).take (i * 1) = R.take (i * 1) := by
            rw [List.append_assoc, List.take_append_of_le_length (by rw [List.length_take, hcl]; omega), List.take_take, ← hct, List.take_take]
            congr 1
            omega
          have e2 : (CS.take ((i + 1) * 1) ++ R.drop (i * 1) ++ CS.drop ((i + 1) * 1 + (R.drop (i * 1)).length)).drop (i * 1 + VS.length) = R.drop (i * 1) ++ CS.drop ((i + 1) * 1 + (R.drop (i * 1)).length) := by
            have hlt : (CS.take ((i + 1) * 1)).length = i * 1 + VS.length := by rw [List.length_take, hcl, hVl]; omega
            rw [← hlt, List.append_assoc, List.drop_left]
          rw [e1, e2, ← List.append_assoc, List.take_append_of_le_length (by simp only [List.length_append, List.length_take, List.length_drop, hRl, hVl]; omega), List.take_of_length_le (by simp only [List.length_append, List.length_take, List.length_drop, hRl, hVl]; omega)]
      have HK := hide fun W (hk : Kept (fun b => b = g) w W) => keptC hk (show (fun b => b = g) g from rfl) (i * 1) VS
      have HK1 := hide hK1
      have HE1 : Hid (W1 = w.drew.setCells g ((i + 1) * 1) (R.drop (i * 1))) := hW1
      rw [← hW1] at hcp1
      have hw1 : IntKind.i64.wrap ((i : Int) + 1) = (i : Int) + 1 := by rw [IntKind.wrap_i64]; omega
      have hw2 : IntKind.i64.wrap ((n : Int) + 1) = (n : Int) + 1 := by rw [IntKind.wrap_i64]; omega
      have hb1 : (0 : Int) ≤ (i : Int) + 1 := by omega
      have htn : ((i : Int) + 1).toNat = i + 1 := by omega
      have htm : ((n : Int) + 1).toNat = n + 1 := by omega
      have hb2 : ¬ (c = i + 1) := by omega
      have hb3 : (i : Int) ≤ (n : Int) + 1 := by omega
      have hb4 : ¬ (c = i) := by omega
      have hb5 : ¬ ((c : Int) < (n : Int) + 1) := by omega
      have hb6 : decide ((c : Int) < (n : Int) + 1) = false := by rw [decide_eq_false_iff_not]; omega
      clear h hv o1 hRI hB1 hl1 hK1 hCS hcl hct hinsl hdl hRl hcs hvs eR eVS hVl h1E h1x hW1 hzf hsz hi0 hz0 hzs hzb
      simp only [Nat.mul_one] at hov hcp1 hcp2 HF HK
      go_enter Try.func103, Try.ntmps103
      go_wp2_with (simp only [hov])
      go_region_law (refine step_copy_runI rfl _ _ 25 25 rfl _ _ (by simp [Act.eval, Act.put]) (by simp [Act.eval, Act.put]) (hcp1 _ _ _) ?_)
      go_wp2_with (at_builtin; refine wpList_copy_runI _ rfl _ _ 25 25 rfl _ _ rfl rfl (hcp2 _ (fun _ => rfl) (fun _ => rfl) _ _) ?_)
      go_ret
      first | exact ⟨g, c, rfl, unhide HF _ rfl, unhide HK _ (unhide HK1), Or.inl rfl⟩ | exact ⟨g, c, rfl, unhide HF _ rfl, unhide HK _ (keptD (unhide HK1)), Or.inl rfl⟩
    · have hcn : c = n := by omega
      obtain ⟨G, hG⟩ : ∃ G, G = grownCap w (n + 1) c 3 := ⟨_, rfl⟩
      have hbig : (n + 1) * 8 ≤ 140737488355328 := by omega
      have hik : i + (n + 1 - i) = n + 1 := by omega
      have hkk : (n : Int) + 1 - (i : Int) = ((n + 1 - i : Nat) : Int) := by omega
      have hold : (Builtin.firstCells i0.size i (.slice (some ⟨g, 0, none⟩) i c)).run Try.prog w.drew = .ok (R.take (i * 1)).toArray w.drew := by
        rw [hzs]
        exact run_firstCells_some w.drew 1 i ⟨g, 0, none⟩ i c (R.take (i * 1)) (by rw [List.length_take, hRl]; omega) (fun j v hj => by
          rw [Addr.add_lit, Nat.zero_add]
          rw [List.getElem?_take] at hj
          split at hj
          · exact hcs j v hj
          · cases hj)
      obtain ⟨Z, eZ⟩ : ∃ z : Value, z = Value.int .i64 0 := ⟨_, rfl⟩
      have hzc : Z.cells.size = 1 := by rw [eZ]; rfl
      rw [← eZ] at hz0
      have hrz : ∀ ty, (Builtin.append_ #[25, 3] ty #[.slice (some ⟨g, 0, none⟩) i c, .int .i64 ((n : Int) + 1 - (i : Int))]).run Try.prog w =
          .ok (.slice (some ⟨w.heap.size, 0, none⟩) (n + 1) (grownCap w (n + 1) c 3)) (w.drew.alloc (.cells ((R.take (i * 1)).toArray ++ Builtin.zeroCells Z.cells (n + 1 - i) ++ Builtin.zeroCells Z.cells (grownCap w (n + 1) c 3 - (n + 1))) 3)) := fun ty => by
        have h := Lib.run_append_grow_zeros w 25 3 ty 3 i0 Z .i64 .i64 Try.underlying25 Try.underlying3 hi0 hz0 (some ⟨g, 0, none⟩) i c (R.take (i * 1)) hold (n + 1 - i) (by omega) (by rw [hzs]; omega) (by omega) (by omega) (by rw [hzb]; omega) (by rw [hzb, hik]; exact growslice_fits (by omega) hbig)
        rw [hik] at h
        rw [hkk]
        exact h
      have hGn : n + 1 ≤ G := by rw [hG]; exact grownCap_ge w _ _ _
      have hG63 : G ≤ 9223372036854775807 := by
        have := grownCap_le_maxLen w (n + 1) c 3 (by unfold maxLen; omega)
        rw [← hG] at this
        unfold maxLen at this
        omega
      rw [← hG] at hrz
      obtain ⟨ZL, eZL⟩ : ∃ z : List Value, z = (Builtin.zeroCells Z.cells (n + 1 - i)).toList ++ (Builtin.zeroCells Z.cells (G - (n + 1))).toList := ⟨_, rfl⟩
      have hZl : ZL.length = (G - i) * 1 := by
        rw [eZL]
        simp only [List.length_append, Array.length_toList, Builtin.zeroCells, Array.size_map, Array.size_range, hzc]
        omega
      obtain ⟨ROW, eROW⟩ : ∃ r : List Value, r = R.take (i * 1) ++ ZL := ⟨_, rfl⟩
      have hRA : (R.take (i * 1)).toArray ++ Builtin.zeroCells Z.cells (n + 1 - i) ++ Builtin.zeroCells Z.cells (G - (n + 1)) = ROW.toArray := by
        rw [eROW, eZL]
        apply Array.toList_inj.1
        simp
      rw [hRA] at hrz
      have hAl : (R.take (i * 1)).length = i * 1 := by rw [List.length_take, hRl]; omega
      have hROWl : ROW.length = G * 1 := by rw [eROW, List.length_append, hAl, hZl]; omega
      obtain ⟨W1, hW1⟩ : ∃ W1, W1 = w.drew.alloc (.cells ROW.toArray 3) := ⟨_, rfl⟩
      rw [← hW1] at hrz
      have hA1 : Below w.heap.size w W1 := by rw [hW1]; exact Below.step (Below.refl _ _).drew (Below.alloc1 _ _)
      have hB1 : Blk W1 w.heap.size 3 ROW := by rw [hW1]; exact Go.Deep.blk_alloc_new w.drew _
      have hB2 : ∀ W : World, W.heap = W1.heap → Blk (W.setCells w.heap.size (i * 1) VS) w.heap.size 3 (R.take (i * 1) ++ VS ++ ZL.drop 1) := fun W hW => by
        have h9 := Blk.setCells VS (i * 1) ROW W (by unfold Blk; rw [hW]; exact hB1) (by rw [hROWl, hVl]; omega)
        rwa [eROW, List.take_append_of_le_length (by omega), List.take_of_length_le (by omega), hVl, show i * 1 + 1 = (R.take (i * 1)).length + 1 by rw [hAl], List.drop_append, show (R.take (i * 1)).length + 1 - (R.take (i * 1)).length = 1 by omega, List.drop_eq_nil_of_le (by omega), List.nil_append] at h9
      have hl2 : (R.take (i * 1) ++ VS ++ ZL.drop 1).length = G * 1 := by simp only [List.length_append, List.length_drop, hAl, hVl, hZl]; omega
      have hcpA : ∀ (W : World), W.heap = W1.heap → ∀ ty dc, (Builtin.copy_ #[25, 25] ty #[.slice (some ⟨w.heap.size, i * 1, none⟩) (n + 1 - i) dc, .slice (some ⟨vb, 0, none⟩) 1 1]).run Try.prog W = .ok (goInt (Nat.min 1 (n + 1 - i))) (W.setCells w.heap.size (i * 1) VS) := fun W hW ty dc => by
        have hBW : Blk W w.heap.size 3 ROW := by unfold Blk; rw [hW]; exact hB1
        refine run_copy_cellsK W _ _ ty 3 1 w.heap.size (i * 1) (n + 1 - i) dc ⟨vb, 0, none⟩ 1 1 VS Try.underlying25 hsz (by rw [hVl]; simp only [Nat.min_def]; split <;> omega)
          (fun j v hj => ?_) (fun j hj => ?_) (fun j hj => hBW.own.frozen _) h1x
        · rw [Addr.add_lit, Nat.zero_add]
          exact (World.cell?_of_block (w := w) (a := ⟨vb, j, none⟩) (by rw [hW]; exact hA1.block vb hvw)).trans (hvs j v hj)
        · rw [hVl] at hj
          exact Option.isSome_iff_exists.2 ⟨_, hBW.own.cell (List.getElem?_eq_getElem (by rw [hROWl]; omega))⟩
      have hcpB : ∀ (W W' : World), W'.heap = W1.heap → W.heap = (W'.setCells w.heap.size (i * 1) VS).heap → ∀ ty dc sc, (Builtin.copy_ #[25, 25] ty #[.slice (some ⟨w.heap.size, (i + 1) * 1, none⟩) (n - i) dc, .slice (some ⟨g, i * 1, none⟩) (n - i) sc]).run Try.prog W = .ok (goInt (Nat.min (n - i) (n - i))) (W.setCells w.heap.size ((i + 1) * 1) (R.drop (i * 1))) := fun W W' hW' hW ty dc sc => by
        have hBW : Blk W w.heap.size 3 (R.take (i * 1) ++ VS ++ ZL.drop 1) := by unfold Blk; rw [hW]; exact hB2 W' hW'
        refine run_copy_cellsK W _ _ ty 3 1 w.heap.size ((i + 1) * 1) (n - i) dc ⟨g, i * 1, none⟩ (n - i) sc (R.drop (i * 1)) Try.underlying25 hsz (by rw [hdl]; simp only [Nat.min_def]; split <;> omega)
          (fun j v hj => ?_) (fun j hj => ?_) (fun j hj => hBW.own.frozen _) (fun v hv => h1E v (List.mem_of_mem_drop hv))
        · rw [Addr.add_lit]
          have hk9 := kept_setCells (g := w.heap.size) VS (i * 1) W'
          have hb9 : W.heap[g]? = w.heap[g]? := by
            rw [hW, hk9.block g (by rw [hW']; exact Nat.lt_of_lt_of_le hgw hA1.size) (by omega), hW']
            exact hA1.block g hgw
          exact (World.cell?_of_block (w := w) (a := ⟨g, i * 1 + j, none⟩) hb9).trans (hcs _ v (by rwa [List.getElem?_drop] at hj))
        · rw [hdl] at hj
          exact Option.isSome_iff_exists.2 ⟨_, hBW.own.cell (List.getElem?_eq_getElem (by rw [hl2]; omega))⟩
      have HF : Hid (∀ W W' : World, W'.heap = W1.heap → W.heap = (W'.setCells w.heap.size (i * 1) VS).heap → RowB 3 1 eI 0 (W.setCells w.heap.size ((i + 1) * 1) (R.drop (i * 1))) (some ⟨w.heap.size, 0, none⟩) (n + 1) G (insL E i x)) := fun W W' hW' hW => by
        have hBW : Blk W w.heap.size 3 (R.take (i * 1) ++ VS ++ ZL.drop 1) := by unfold Blk; rw [hW]; exact hB2 W' hW'
        have hB3 := Blk.setCells (R.drop (i * 1)) ((i + 1) * 1) _ W hBW (by rw [hl2, hdl]; omega)
        refine hB3.rowOf hinsl hGn (by unfold maxLen; omega) ?_ ?_
        · simp only [List.length_append, List.length_take, List.length_drop, hRl, hVl, hZl]
          omega
        · rw [hRI]
          have e1 : (R.take (i * 1) ++ VS ++ ZL.drop 1).take ((i + 1) * 1) = R.take (i * 1) ++ VS := by
            rw [List.take_append_of_le_length (by rw [List.length_append, hAl, hVl]; omega), List.take_of_length_le (by rw [List.length_append, hAl, hVl]; omega)]
          rw [e1, List.take_append_of_le_length (by simp only [List.length_append, hAl, hVl, hdl]; omega), List.take_of_length_le (by simp only [List.length_append, hAl, hVl, hdl]; omega)]
      have HK : Hid (∀ W W' : World, Below w.heap.size w W' → W.heap = (W'.setCells w.heap.size (i * 1) VS).heap → W.os = W'.os → W.tape = W'.tape → W.output = W'.output → Kept (fun b => b = g) w (W.setCells w.heap.size ((i + 1) * 1) (R.drop (i * 1)))) := fun W W' h1 h2 h3 h4 h5 => by
        have k1 := kept_setCells (g := w.heap.size) VS (i * 1) W'
        have k2 := kept_setCells (g := w.heap.size) (R.drop (i * 1)) ((i + 1) * 1) W
        have hs1 : w.heap.size ≤ W.heap.size := by rw [h2]; exact Nat.le_trans h1.size k1.size
        refine ⟨k2.os.trans (h3.trans h1.os), k2.tape.trans (h4.trans h1.tape), k2.output.trans (h5.trans h1.output), Nat.le_trans hs1 k2.size, fun b hb hnb => ?_⟩
        rw [k2.block b (Nat.lt_of_lt_of_le hb hs1) (by omega), h2, k1.block b (Nat.lt_of_lt_of_le hb h1.size) (by omega)]
        exact h1.block b hb
      have HA1 := hide hA1
      have hGi : ¬ (G = i) := by omega
      have hGim : ¬ (G = i + 1) := by omega
      have hci : ¬ (c = i) := by omega
      have hw1 : IntKind.i64.wrap ((i : Int) + 1) = (i : Int) + 1 := by rw [IntKind.wrap_i64]; omega
      have hw2 : IntKind.i64.wrap ((n : Int) + 1) = (n : Int) + 1 := by rw [IntKind.wrap_i64]; omega
      have hw3 : IntKind.i64.wrap ((n : Int) + 1 - (i : Int)) = (n : Int) + 1 - (i : Int) := by rw [IntKind.wrap_i64]; omega
      have hb1 : (0 : Int) ≤ (i : Int) + 1 := by omega
      have htn : ((i : Int) + 1).toNat = i + 1 := by omega
      have hb3 : (i : Int) ≤ (n : Int) := by omega
      have hz3 : (c : Int) < (n : Int) + 1 := by omega
      have hb6 : decide ((c : Int) < (n : Int) + 1) = true := by rw [decide_eq_true_eq]; omega
      have hbN : ¬ g = w.heap.size := by omega
      subst hW1
      have hE1 : ((w.alloc (.cells ROW.toArray 3)).drew).heap = (w.drew.alloc (.cells ROW.toArray 3)).heap := rfl
      have hF1 : (((w.alloc (.cells ROW.toArray 3)).drew.setCells w.heap.size (i) VS).drew).heap = ((w.alloc (.cells ROW.toArray 3)).drew.setCells w.heap.size (i) VS).heap := rfl
      have HA2 : Hid (Below w.heap.size w (w.alloc (.cells ROW.toArray 3)).drew) := (Below.alloc1 _ _).drew
      have HKO : Hid (∀ vs o (V : World), (V.setCells w.heap.size o vs).os = V.os ∧ (V.setCells w.heap.size o vs).tape = V.tape ∧ (V.setCells w.heap.size o vs).output = V.output) := fun vs o V => by
        have := kept_setCells (g := w.heap.size) vs o V
        exact ⟨this.os, this.tape, this.output⟩
      clear h hv o1 hRI hB1 hB2 hl2 hCS hcl hct hinsl hdl hRl hcs hvs eR eVS hVl h1E h1x hzf hsz hi0 hz0 hzs hzb hold hRA eROW eZL hZl hAl hROWl hG hcn hbig hA1 hkk hik eZ hzc hzn
      simp only [Nat.mul_one] at hrz hcpA hcpB HF HK
      go_enter Try.func103, Try.ntmps103
      go_wp2_with (first
        | (at_builtin; refine Lib.wpList_append_run _ rfl _ _ _ _ rfl _ _ rfl rfl _ _ (hrz _) ?_)
        | (at_builtin; refine wpList_copy_runI _ rfl _ _ 25 25 rfl _ _ rfl rfl (hcpA _ hE1 _ _) ?_))
      go_region_law (refine step_copy_runI rfl _ _ 25 25 rfl (.slice (some ⟨w.heap.size, i + 1, none⟩) (n - i) (G - (i + 1))) (.slice (some ⟨g, i, none⟩) (n - i) (c - i)) (by simp [Act.eval, Act.put]) (by simp [Act.eval, Act.put]) (hcpB _ _ hE1 hF1 3 (G - (i + 1)) (c - i)) ?_)
      go_wp2
      go_ret
      have hq := unhide HKO VS (i) (w.alloc (.cells ROW.toArray 3)).drew
      exact ⟨w.heap.size, G, rfl, unhide HF _ _ hE1 hF1, unhide HK _ _ (unhide HA2) hF1 hq.1 hq.2.1 hq.2.2, Or.inr (Nat.le_refl _)⟩

theorem eBl_one (E : List EBl) : ∀ v ∈ recCells 5 eBl E, v.oneCell' = true := fun u hu => by
  simp only [recCells, List.mem_map, List.mem_range] at hu
  obtain ⟨q, _, rfl⟩ := hu
  have : q % 5 = 0 ∨ q % 5 = 1 ∨ q % 5 = 2 ∨ q % 5 = 3 ∨ q % 5 = 4 := by omega
  rcases this with e | e | e | e | e <;> rw [e] <;> rfl
theorem eBl_one1 (x : EBl) : ∀ v ∈ (List.range 5).map (eBl x), v.oneCell' = true := fun u hu => by
  rw [← recCells_one] at hu
  exact eBl_one [x] u hu

set_option maxHeartbeats 1600000 in
theorem withFreed_any (f m cap : Nat) (F : List Int) (id : Int) (w : World) (h : RowB 3 1 eI 0 w (some ⟨f, 0, none⟩) m cap F) (hs : m ≤ 1048576) (ha : ∀ r s, r < s → s < F.length → F.getD r 0 < F.getD s 0) :
    Calls Try.prog 89 #[.slice (some ⟨f, 0, none⟩) m cap, .int .i64 id] w fun e w' => ∃ g' c', e = .returned (.slice (some ⟨g', 0, none⟩) (m + 1) c') ∧ RowB 3 1 eI 0 w' (some ⟨g', 0, none⟩) (m + 1) c' (insL F (fplc F id) id) ∧ Kept (fun b => b = f) w w' ∧ (g' = f ∨ w.heap.size ≤ g') := by
  obtain ⟨o1, hnc, hcm, hfw, hFl⟩ := h.ownG (by omega)
  have hin : IntsIn w (.slice (some ⟨f, 0, none⟩) m cap) F := by
    rw [recI] at o1
    subst hFl
    exact OwnV.intsIn o1 hnc hcm
  have Q1 := hide (bsInt_any (some ⟨f, 0, none⟩) m cap F id w hin hs ha)
  have hpl : fplc F id ≤ m := by rw [← hFl]; exact idx_le _ _
  have A := Below.alloc1 w (.cells #[.int .i64 id] 3)
  have hB : Blk (w.alloc (.cells #[.int .i64 id] 3)) w.heap.size 3 ((List.range 1).map (eI id)) := Go.Deep.blk_alloc_new w _
  have Q2 := hide (insI_any f m cap (fplc F id) w.heap.size F id _ (h.below A) hB (by omega) hpl hs (by rw [recI]; exact ints_one F) (fun v hv => by simp [eI] at hv; rw [hv]; rfl))
  have HA := hide A
  clear h o1 hin ha A hB
  generalize insL F (fplc F id) id = F' at *
  generalize fplc F id = k at *
  generalize F.contains id = B at *
  go_enter Try.func89, Try.ntmps89
  go_wp2_with fail
  refine (unhide Q1).mono ?_
  rintro e w1 ⟨rfl, rfl⟩
  clear Q1
  go_wp2_with fail
  refine (unhide Q2).mono ?_
  rintro e w2 ⟨g', c', rfl, hr, hk, hor⟩
  have HR := hide hr
  have HK := hide ((kept_of_below (T := fun b => b = f) (unhide HA)).trans hk)
  have HOR := hide hor
  clear Q2 hr hk hor
  go_wp2
  go_ret
  exact ⟨g', c', rfl, unhide HR, unhide HK, (unhide HOR).imp (fun h => h) fun h => Nat.le_trans (unhide HA).size h⟩

end Go.Proofs.Ytdcbonfhakdhhaa
