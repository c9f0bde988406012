/- Customs: contracts of slices.Insert of one lot, and of the program's ownCopy at lots. Written out of BlL and BlJ by a program. -/
import Derived.Test.YtojlkdmlelgcbaaRecG
import Derived.Test.YtojlkdmlelgcbaaHsB
import Derived.Shelf.Spec.SlicesInsertGrow
namespace Go.Proofs.Ytojlkdmlelgcbaa
open Go.RowKit

set_option maxRecDepth 100000 in
set_option maxHeartbeats 8000000 in
theorem insLot_any (g n c i vb : Nat) (E : List LotT) (x : LotT) (w : World) (h : RowB 39 7 eLot 0 w (some ⟨g, 0, none⟩) n c E) (hv : Blk w vb 39 ((List.range 7).map (eLot x))) (hne : vb ≠ g) (hi : i ≤ n) (hn : n ≤ 1048576) (h1E : ∀ v ∈ recCells 7 eLot E, v.oneCell' = true) (h1x : ∀ v ∈ (List.range 7).map (eLot x), v.oneCell' = true) :
    Calls Try.prog 86 #[.slice (some ⟨g, 0, none⟩) n c, .int .i64 (i : Int), .slice (some ⟨vb, 0, none⟩) 1 1] w fun e w' => ∃ g' c', e = .returned (.slice (some ⟨g', 0, none⟩) (n + 1) c') ∧ RowB 39 7 eLot 0 w' (some ⟨g', 0, none⟩) (n + 1) c' (insL E i x) ∧ Kept (fun b => b = g) w w' ∧ (g' = g ∨ w.heap.size ≤ g') := by
  obtain ⟨o1, hnc, hcm, hgw, hEl⟩ := h.ownG (by omega)
  unfold maxLen at hcm
  have hvw := hv.lt
  have hzn : (n : Int) + 1 ≤ 1048577 := by omega
  obtain ⟨i0, hi0, hz0, hzs, hzb⟩ := info_parts Try.infoLot
  have hsz : (Try.prog.info? 39).map (·.size) = some 7 := by rw [hi0]; simp [hzs]
  have hzf : ∀ w, (Go.sizeOf 39).run Try.prog w = .ok 7 w := fun w => by simp [Go.sizeOf, typeInfo, hi0, hzs]
  obtain ⟨VS, eVS⟩ : ∃ z, z = (List.range 7).map (eLot x) := ⟨_, rfl⟩
  have hVl : VS.length = 7 := by rw [eVS]; simp
  by_cases hin : i = n
  · subst hin
    have hE : insL E i x = E ++ [x] := by rw [insL, ← hEl, List.take_length, List.drop_length]
    rw [hE]
    have HH := hide h
    have HV := hide hv.own
    have hty : RecTy (α := LotT) 24 39 7 eLot := recTy_mk Try.underlying24 Try.infoLot rfl (by omega) (by omega) (fun x j hj => (by match j, hj with | 0, _ => rfl | 1, _ => rfl | 2, _ => rfl | 3, _ => rfl | 4, _ => rfl | 5, _ => rfl | 6, _ => rfl))
    have hz2 : ((i : Int) == (i : Int)) = true := by simp
    clear h hv o1 hE hzf hi0 hz0 hzs hzb hsz eVS hVl hgw hvw hEl h1E h1x hne
    by_cases hci : c = i
    · have hcT : (c = i) = True := eq_true hci
      have hz9 : c - i = 0 := by omega
      clear hci
      go_enter Try.func86, Try.ntmps86
      go_wp2_with (at_builtin; refine wpList_appRow hty _ rfl _ _ rfl 0 _ _ _ E rfl (unhide HH) (Nat.zero_le _) hn vb x 1 rfl (unhide HV) ?_; intro g' cap' w' hr hk _ hor; have HR := hide hr; have HK := hide hk; have HOR := hide hor; clear hr hk hor)
      go_ret
      refine ⟨g', cap', rfl, unhide HR, (unhide HK).mono fun b _ e => by simp only [Option.some.injEq, Addr.mk.injEq, and_true] at e; exact e.symm, ?_⟩
      rcases unhide HOR with e | e
      · simp only [Option.some.injEq, Addr.mk.injEq, and_true] at e; exact Or.inl e.symm
      · exact Or.inr (by omega)
    · have hcF : (c = i) = False := eq_false hci
      go_enter Try.func86, Try.ntmps86
      go_wp2_with (at_builtin; refine wpList_appRow hty _ rfl _ _ rfl 0 _ _ _ E rfl (unhide HH) (Nat.zero_le _) hn vb x 1 rfl (unhide HV) ?_; intro g' cap' w' hr hk _ hor; have HR := hide hr; have HK := hide hk; have HOR := hide hor; clear hr hk hor)
      go_ret
      refine ⟨g', cap', rfl, unhide HR, (unhide HK).mono fun b _ e => by simp only [Option.some.injEq, Addr.mk.injEq, and_true] at e; exact e.symm, ?_⟩
      rcases unhide HOR with e | e
      · simp only [Option.some.injEq, Addr.mk.injEq, and_true] at e; exact Or.inl e.symm
      · exact Or.inr (by omega)
  · have hin' : i < n := by omega
    have hzi : ((i : Int) == (n : Int)) = false := by simp; omega
    obtain ⟨CS, hCS, hcl, hct, -, -⟩ := h.blk
    have hRl : (recCells 7 eLot E).length = n * 7 := by rw [recCells_length, hEl]
    have hRI := rec_ins (n := 7) (by omega) eLot E (i := i) (by rw [hEl]; exact hi) x
    rw [← eVS] at hRI hv h1x
    obtain ⟨R, eR⟩ : ∃ z, z = recCells 7 eLot E := ⟨_, rfl⟩
    rw [← eR] at hRl hRI hct h1E o1
    have hdl : (R.drop (i * 7)).length = n * 7 - i * 7 := by rw [List.length_drop, hRl]
    have hinsl : (insL E i x).length = n + 1 := by rw [insL_len, hEl]
    have hcs : ∀ j v, R[j]? = some v → w.cell? ⟨g, j, none⟩ = some v := fun j v hj => o1.cell hj
    have hvs : ∀ j v, VS[j]? = some v → w.cell? ⟨vb, j, none⟩ = some v := fun j v hj => hv.own.cell hj
    by_cases hroom : n + 1 ≤ c
    · have hov : ∀ lb cb, (callFunc 95 #[.slice (some ⟨vb, 0, none⟩) 1 1, .slice (some ⟨g, (i + 1) * 7, none⟩) lb cb]).run Try.prog w = .ok (.value (.bool false)) w := fun lb cb => by
        have hshA : w.shape? vb = some (39, VS.length) := by unfold World.shape?; rw [show w.heap[vb]? = some (.cells VS.toArray 39 (0, 0)) from hv]; simp
        have hshB : w.shape? g = some (39, CS.length) := by unfold World.shape?; rw [show w.heap[g]? = some (.cells CS.toArray 39 (0, 0)) from hCS]; simp
        rw [run_callFunc_extern Try.func95 (by kernel_rfl) (by kernel_rfl) (by kernel_rfl) (e := Extern.SlicesOverlaps.overlaps #[24, 24] #[4]) (by kernel_rfl),
          Lib.run_overlaps_apart w 24 4 39 Try.underlying24 7 hzf ⟨vb, 0, none⟩ ⟨g, (i + 1) * 7, none⟩ 1 1 lb cb hne _ _ _ _ hshA hshB (by rw [hcl]; omega) (hv.own.frozen 0) (hv.own.frozen _)]
        rfl
      have hcp1 : ∀ ty dc sc, (Builtin.copy_ #[24, 24] ty #[.slice (some ⟨g, (i + 1) * 7, none⟩) (n - i) dc, .slice (some ⟨g, i * 7, none⟩) (n + 1 - i) sc]).run Try.prog w.drew = .ok (goInt (Nat.min (n + 1 - i) (n - i))) (w.drew.setCells g ((i + 1) * 7) (R.drop (i * 7))) := fun ty dc sc =>
        run_copy_cellsK w.drew _ _ ty 39 7 g ((i + 1) * 7) (n - i) dc ⟨g, i * 7, none⟩ (n + 1 - i) sc (R.drop (i * 7)) Try.underlying24 hsz (by rw [hdl]; simp only [Nat.min_def]; split <;> omega)
          (fun j v hj => by rw [Addr.add_lit]; exact hcs _ v (by rwa [List.getElem?_drop] at hj))
          (fun j hj => by
            rw [hdl] at hj
            have hq : (i + 1) * 7 + j < CS.length := by rw [hcl]; omega
            exact Option.isSome_iff_exists.2 ⟨_, hCS.own.cell (List.getElem?_eq_getElem hq)⟩) (fun j hj => hCS.own.frozen _) (fun v hv => h1E v (List.mem_of_mem_drop hv))
      obtain ⟨W1, hW1⟩ : ∃ W1, W1 = w.drew.setCells g ((i + 1) * 7) (R.drop (i * 7)) := ⟨_, rfl⟩
      have hB1 : Blk W1 g 39 (CS.take ((i + 1) * 7) ++ R.drop (i * 7) ++ CS.drop ((i + 1) * 7 + (R.drop (i * 7)).length)) := by
        rw [hW1]
        exact Blk.setCells _ _ _ _ (show Blk w.drew g 39 CS from hCS) (by rw [hdl, hcl]; omega)
      have hl1 : (CS.take ((i + 1) * 7) ++ R.drop (i * 7) ++ CS.drop ((i + 1) * 7 + (R.drop (i * 7)).length)).length = CS.length := by
        simp only [List.length_append, List.length_take, List.length_drop, hRl]
        rw [hcl]
        omega
      have hK1 : Kept (fun b => b = g) w W1 := by rw [hW1]; exact keptC (T := fun b => b = g) (keptD (Kept.refl _ _)) rfl _ _
      have hcp2 : ∀ (W : World), (∀ y, W.cell? y = W1.cell? y) → (∀ y, W.frozen? y = W1.frozen? y) → ∀ ty dc, (Builtin.copy_ #[24, 24] ty #[.slice (some ⟨g, i * 7, none⟩) (n + 1 - i) dc, .slice (some ⟨vb, 0, none⟩) 1 1]).run Try.prog W = .ok (goInt (Nat.min 1 (n + 1 - i))) (W.setCells g (i * 7) VS) := fun W hWc hWf ty dc =>
        run_copy_cellsK W _ _ ty 39 7 g (i * 7) (n + 1 - i) dc ⟨vb, 0, none⟩ 1 1 VS Try.underlying24 hsz (by rw [hVl]; simp only [Nat.min_def]; split <;> omega)
          (fun j v hj => by
            rw [Addr.add_lit, hWc, Nat.zero_add]
            exact (World.cell?_of_block (a := ⟨vb, j, none⟩) (hK1.block vb hvw hne)).trans (hvs j v hj))
          (fun j hj => by
            rw [hVl] at hj
            rw [hWc]
            exact Option.isSome_iff_exists.2 ⟨_, hB1.own.cell (List.getElem?_eq_getElem (by rw [hl1, hcl]; omega))⟩) (fun j hj => by rw [hWf]; exact hB1.own.frozen _) h1x
      have HF : Hid (∀ W : World, W.heap = W1.heap → RowB 39 7 eLot 0 (W.setCells g (i * 7) VS) (some ⟨g, 0, none⟩) (n + 1) c (insL E i x)) := fun W hW => by
        have hB : Blk W g 39 (CS.take ((i + 1) * 7) ++ R.drop (i * 7) ++ CS.drop ((i + 1) * 7 + (R.drop (i * 7)).length)) := by unfold Blk; rw [hW]; exact hB1
        have hB2 := Blk.setCells VS (i * 7) _ W hB (by rw [hl1, hcl, hVl]; omega)
        refine hB2.rowOf hinsl hroom (by unfold maxLen; omega) ?_ ?_
        · simp only [List.length_append, List.length_take, List.length_drop, hRl, hVl]
          rw [hcl]
          omega
        · rw [hRI]
          have e1 : (CS.take ((i + 1) * 7) ++ R.drop (i * 7) ++ CS.drop ((i + 1) * 7 + (R.drop (i * 7)).length)).take (i * 7) = R.take (i * 7) := by
            rw [List.append_assoc, List.take_append_of_le_length (by rw [List.length_take, hcl]; omega), List.take_take, ← hct, List.take_take]
            congr 1
            omega
          have e2 : (CS.take ((i + 1) * 7) ++ R.drop (i * 7) ++ CS.drop ((i + 1) * 7 + (R.drop (i * 7)).length)).drop (i * 7 + VS.length) = R.drop (i * 7) ++ CS.drop ((i + 1) * 7 + (R.drop (i * 7)).length) := by
            have hlt : (CS.take ((i + 1) * 7)).length = i * 7 + VS.length := by rw [List.length_take, hcl, hVl]; omega
            rw [← hlt, List.append_assoc, List.drop_left]
          rw [e1, e2, ← List.append_assoc, List.take_append_of_le_length (by simp only [List.length_append, List.length_take, List.length_drop, hRl, hVl]; omega), List.take_of_length_le (by simp only [List.length_append, List.length_take, List.length_drop, hRl, hVl]; omega)]
      have HK := hide fun W (hk : Kept (fun b => b = g) w W) => keptC hk (show (fun b => b = g) g from rfl) (i * 7) VS
      have HK1 := hide hK1
      have HE1 : Hid (W1 = w.drew.setCells g ((i + 1) * 7) (R.drop (i * 7))) := hW1
      rw [← hW1] at hcp1
      have hw1 : IntKind.i64.wrap ((i : Int) + 1) = (i : Int) + 1 := by rw [IntKind.wrap_i64]; omega
      have hw2 : IntKind.i64.wrap ((n : Int) + 1) = (n : Int) + 1 := by rw [IntKind.wrap_i64]; omega
      have hb1 : (0 : Int) ≤ (i : Int) + 1 := by omega
      have htn : ((i : Int) + 1).toNat = i + 1 := by omega
      have htm : ((n : Int) + 1).toNat = n + 1 := by omega
      have hb2 : ¬ (c = i + 1) := by omega
      have hb3 : (i : Int) ≤ (n : Int) + 1 := by omega
      have hb4 : ¬ (c = i) := by omega
      have hb5 : ¬ ((c : Int) < (n : Int) + 1) := by omega
      have hb6 : decide ((c : Int) < (n : Int) + 1) = false := by rw [decide_eq_false_iff_not]; omega
      clear h hv o1 hRI hB1 hl1 hK1 hCS hcl hct hinsl hdl hRl hcs hvs eR eVS hVl h1E h1x hW1 hzf hsz hi0 hz0 hzs hzb
      go_enter Try.func86, Try.ntmps86
      go_wp2_with (simp only [hov])
      go_region_law (refine step_copy_runI rfl _ _ 24 24 rfl _ _ (by simp [Act.eval, Act.put]) (by simp [Act.eval, Act.put]) (hcp1 _ _ _) ?_)
      go_wp2_with (at_builtin; refine wpList_copy_runI _ rfl _ _ 24 24 rfl _ _ rfl rfl (hcp2 _ (fun _ => rfl) (fun _ => rfl) _ _) ?_)
      go_ret
      first | exact ⟨g, c, rfl, unhide HF _ rfl, unhide HK _ (unhide HK1), Or.inl rfl⟩ | exact ⟨g, c, rfl, unhide HF _ rfl, unhide HK _ (keptD (unhide HK1)), Or.inl rfl⟩
    · have hcn : c = n := by omega
      obtain ⟨G, hG⟩ : ∃ G, G = grownCap w (n + 1) c 39 := ⟨_, rfl⟩
      have hbig : (n + 1) * 56 ≤ 140737488355328 := by omega
      have hik : i + (n + 1 - i) = n + 1 := by omega
      have hkk : (n : Int) + 1 - (i : Int) = ((n + 1 - i : Nat) : Int) := by omega
      have hold : (Builtin.firstCells i0.size i (.slice (some ⟨g, 0, none⟩) i c)).run Try.prog w.drew = .ok (R.take (i * 7)).toArray w.drew := by
        rw [hzs]
        exact run_firstCells_some w.drew 7 i ⟨g, 0, none⟩ i c (R.take (i * 7)) (by rw [List.length_take, hRl]; omega) (fun j v hj => by
          rw [Addr.add_lit, Nat.zero_add]
          rw [List.getElem?_take] at hj
          split at hj
          · exact hcs j v hj
          · cases hj)
      obtain ⟨Z, eZ⟩ : ∃ z : Value, z = vLot 0 0 0 0 0 0 0 := ⟨_, rfl⟩
      have hzc : Z.cells.size = 7 := by rw [eZ]; rfl
      rw [← eZ] at hz0
      have hrz : ∀ ty, (Builtin.append_ #[24, 3] ty #[.slice (some ⟨g, 0, none⟩) i c, .int .i64 ((n : Int) + 1 - (i : Int))]).run Try.prog w =
          .ok (.slice (some ⟨w.heap.size, 0, none⟩) (n + 1) (grownCap w (n + 1) c 39)) (w.drew.alloc (.cells ((R.take (i * 7)).toArray ++ Builtin.zeroCells Z.cells (n + 1 - i) ++ Builtin.zeroCells Z.cells (grownCap w (n + 1) c 39 - (n + 1))) 39)) := fun ty => by
        have h := Lib.run_append_grow_zeros w 24 3 ty 39 i0 Z .i64 .i64 Try.underlying24 Try.underlying3 hi0 hz0 (some ⟨g, 0, none⟩) i c (R.take (i * 7)) hold (n + 1 - i) (by omega) (by rw [hzs]; omega) (by omega) (by omega) (by rw [hzb]; omega) (by rw [hzb, hik]; exact growslice_fits (by omega) hbig)
        rw [hik] at h
        rw [hkk]
        exact h
      have hGn : n + 1 ≤ G := by rw [hG]; exact grownCap_ge w _ _ _
      have hG63 : G ≤ 9223372036854775807 := by
        have := grownCap_le_maxLen w (n + 1) c 39 (by unfold maxLen; omega)
        rw [← hG] at this
        unfold maxLen at this
        omega
      rw [← hG] at hrz
      obtain ⟨ZL, eZL⟩ : ∃ z : List Value, z = (Builtin.zeroCells Z.cells (n + 1 - i)).toList ++ (Builtin.zeroCells Z.cells (G - (n + 1))).toList := ⟨_, rfl⟩
      have hZl : ZL.length = (G - i) * 7 := by
        rw [eZL]
        simp only [List.length_append, Array.length_toList, Builtin.zeroCells, Array.size_map, Array.size_range, hzc]
        omega
      obtain ⟨ROW, eROW⟩ : ∃ r : List Value, r = R.take (i * 7) ++ ZL := ⟨_, rfl⟩
      have hRA : (R.take (i * 7)).toArray ++ Builtin.zeroCells Z.cells (n + 1 - i) ++ Builtin.zeroCells Z.cells (G - (n + 1)) = ROW.toArray := by
        rw [eROW, eZL]
        apply Array.toList_inj.1
        simp
      rw [hRA] at hrz
      have hAl : (R.take (i * 7)).length = i * 7 := by rw [List.length_take, hRl]; omega
      have hROWl : ROW.length = G * 7 := by rw [eROW, List.length_append, hAl, hZl]; omega
      obtain ⟨W1, hW1⟩ : ∃ W1, W1 = w.drew.alloc (.cells ROW.toArray 39) := ⟨_, rfl⟩
      rw [← hW1] at hrz
      have hA1 : Below w.heap.size w W1 := by rw [hW1]; exact Below.step (Below.refl _ _).drew (Below.alloc1 _ _)
      have hB1 : Blk W1 w.heap.size 39 ROW := by rw [hW1]; exact Go.Deep.blk_alloc_new w.drew _
      have hB2 : ∀ W : World, W.heap = W1.heap → Blk (W.setCells w.heap.size (i * 7) VS) w.heap.size 39 (R.take (i * 7) ++ VS ++ ZL.drop 7) := fun W hW => by
        have h9 := Blk.setCells VS (i * 7) ROW W (by unfold Blk; rw [hW]; exact hB1) (by rw [hROWl, hVl]; omega)
        rwa [eROW, List.take_append_of_le_length (by omega), List.take_of_length_le (by omega), hVl, show i * 7 + 7 = (R.take (i * 7)).length + 7 by rw [hAl], List.drop_append, show (R.take (i * 7)).length + 7 - (R.take (i * 7)).length = 7 by omega, List.drop_eq_nil_of_le (by omega), List.nil_append] at h9
      have hl2 : (R.take (i * 7) ++ VS ++ ZL.drop 7).length = G * 7 := by simp only [List.length_append, List.length_drop, hAl, hVl, hZl]; omega
      have hcpA : ∀ (W : World), W.heap = W1.heap → ∀ ty dc, (Builtin.copy_ #[24, 24] ty #[.slice (some ⟨w.heap.size, i * 7, none⟩) (n + 1 - i) dc, .slice (some ⟨vb, 0, none⟩) 1 1]).run Try.prog W = .ok (goInt (Nat.min 1 (n + 1 - i))) (W.setCells w.heap.size (i * 7) VS) := fun W hW ty dc => by
        have hBW : Blk W w.heap.size 39 ROW := by unfold Blk; rw [hW]; exact hB1
        refine run_copy_cellsK W _ _ ty 39 7 w.heap.size (i * 7) (n + 1 - i) dc ⟨vb, 0, none⟩ 1 1 VS Try.underlying24 hsz (by rw [hVl]; simp only [Nat.min_def]; split <;> omega)
          (fun j v hj => ?_) (fun j hj => ?_) (fun j hj => hBW.own.frozen _) h1x
        · rw [Addr.add_lit, Nat.zero_add]
          exact (World.cell?_of_block (w := w) (a := ⟨vb, j, none⟩) (by rw [hW]; exact hA1.block vb hvw)).trans (hvs j v hj)
        · rw [hVl] at hj
          exact Option.isSome_iff_exists.2 ⟨_, hBW.own.cell (List.getElem?_eq_getElem (by rw [hROWl]; omega))⟩
      have hcpB : ∀ (W W' : World), W'.heap = W1.heap → W.heap = (W'.setCells w.heap.size (i * 7) VS).heap → ∀ ty dc sc, (Builtin.copy_ #[24, 24] ty #[.slice (some ⟨w.heap.size, (i + 1) * 7, none⟩) (n - i) dc, .slice (some ⟨g, i * 7, none⟩) (n - i) sc]).run Try.prog W = .ok (goInt (Nat.min (n - i) (n - i))) (W.setCells w.heap.size ((i + 1) * 7) (R.drop (i * 7))) := fun W W' hW' hW ty dc sc => by
        have hBW : Blk W w.heap.size 39 (R.take (i * 7) ++ VS ++ ZL.drop 7) := by unfold Blk; rw [hW]; exact hB2 W' hW'
        refine run_copy_cellsK W _ _ ty 39 7 w.heap.size ((i + 1) * 7) (n - i) dc ⟨g, i * 7, none⟩ (n - i) sc (R.drop (i * 7)) Try.underlying24 hsz (by rw [hdl]; simp only [Nat.min_def]; split <;> omega)
          (fun j v hj => ?_) (fun j hj => ?_) (fun j hj => hBW.own.frozen _) (fun v hv => h1E v (List.mem_of_mem_drop hv))
        · rw [Addr.add_lit]
          have hk9 := kept_setCells (g := w.heap.size) VS (i * 7) W'
          have hb9 : W.heap[g]? = w.heap[g]? := by
            rw [hW, hk9.block g (by rw [hW']; exact Nat.lt_of_lt_of_le hgw hA1.size) (by omega), hW']
            exact hA1.block g hgw
          exact (World.cell?_of_block (w := w) (a := ⟨g, i * 7 + j, none⟩) hb9).trans (hcs _ v (by rwa [List.getElem?_drop] at hj))
        · rw [hdl] at hj
          exact Option.isSome_iff_exists.2 ⟨_, hBW.own.cell (List.getElem?_eq_getElem (by rw [hl2]; omega))⟩
      have HF : Hid (∀ W W' : World, W'.heap = W1.heap → W.heap = (W'.setCells w.heap.size (i * 7) VS).heap → RowB 39 7 eLot 0 (W.setCells w.heap.size ((i + 1) * 7) (R.drop (i * 7))) (some ⟨w.heap.size, 0, none⟩) (n + 1) G (insL E i x)) := fun W W' hW' hW => by
        have hBW : Blk W w.heap.size 39 (R.take (i * 7) ++ VS ++ ZL.drop 7) := by unfold Blk; rw [hW]; exact hB2 W' hW'
        have hB3 := Blk.setCells (R.drop (i * 7)) ((i + 1) * 7) _ W hBW (by rw [hl2, hdl]; omega)
        refine hB3.rowOf hinsl hGn (by unfold maxLen; omega) ?_ ?_
        · simp only [List.length_append, List.length_take, List.length_drop, hRl, hVl, hZl]
          omega
        · rw [hRI]
          have e1 : (R.take (i * 7) ++ VS ++ ZL.drop 7).take ((i + 1) * 7) = R.take (i * 7) ++ VS := by
            rw [List.take_append_of_le_length (by rw [List.length_append, hAl, hVl]; omega), List.take_of_length_le (by rw [List.length_append, hAl, hVl]; omega)]
          rw [e1, List.take_append_of_le_length (by simp only [List.length_append, hAl, hVl, hdl]; omega), List.take_of_length_le (by simp only [List.length_append, hAl, hVl, hdl]; omega)]
      have HK : Hid (∀ W W' : World, Below w.heap.size w W' → W.heap = (W'.setCells w.heap.size (i * 7) VS).heap → W.os = W'.os → W.tape = W'.tape → W.output = W'.output → Kept (fun b => b = g) w (W.setCells w.heap.size ((i + 1) * 7) (R.drop (i * 7)))) := fun W W' h1 h2 h3 h4 h5 => by
        have k1 := kept_setCells (g := w.heap.size) VS (i * 7) W'
        have k2 := kept_setCells (g := w.heap.size) (R.drop (i * 7)) ((i + 1) * 7) W
        have hs1 : w.heap.size ≤ W.heap.size := by rw [h2]; exact Nat.le_trans h1.size k1.size
        refine ⟨k2.os.trans (h3.trans h1.os), k2.tape.trans (h4.trans h1.tape), k2.output.trans (h5.trans h1.output), Nat.le_trans hs1 k2.size, fun b hb hnb => ?_⟩
        rw [k2.block b (Nat.lt_of_lt_of_le hb hs1) (by omega), h2, k1.block b (Nat.lt_of_lt_of_le hb h1.size) (by omega)]
        exact h1.block b hb
      have HA1 := hide hA1
      have hGi : ¬ (G = i) := by omega
      have hGim : ¬ (G = i + 1) := by omega
      have hci : ¬ (c = i) := by omega
      have hw1 : IntKind.i64.wrap ((i : Int) + 1) = (i : Int) + 1 := by rw [IntKind.wrap_i64]; omega
      have hw2 : IntKind.i64.wrap ((n : Int) + 1) = (n : Int) + 1 := by rw [IntKind.wrap_i64]; omega
      have hw3 : IntKind.i64.wrap ((n : Int) + 1 - (i : Int)) = (n : Int) + 1 - (i : Int) := by rw [IntKind.wrap_i64]; omega
      have hb1 : (0 : Int) ≤ (i : Int) + 1 := by omega
      have htn : ((i : Int) + 1).toNat = i + 1 := by omega
      have hb3 : (i : Int) ≤ (n : Int) := by omega
      have hz3 : (c : Int) < (n : Int) + 1 := by omega
      have hb6 : decide ((c : Int) < (n : Int) + 1) = true := by rw [decide_eq_true_eq]; omega
      have hbN : ¬ g = w.heap.size := by omega
      subst hW1
      have hE1 : ((w.alloc (.cells ROW.toArray 39)).drew).heap = (w.drew.alloc (.cells ROW.toArray 39)).heap := rfl
      have hF1 : (((w.alloc (.cells ROW.toArray 39)).drew.setCells w.heap.size (i * 7) VS).drew).heap = ((w.alloc (.cells ROW.toArray 39)).drew.setCells w.heap.size (i * 7) VS).heap := rfl
      have HA2 : Hid (Below w.heap.size w (w.alloc (.cells ROW.toArray 39)).drew) := (Below.alloc1 _ _).drew
      have HKO : Hid (∀ vs o (V : World), (V.setCells w.heap.size o vs).os = V.os ∧ (V.setCells w.heap.size o vs).tape = V.tape ∧ (V.setCells w.heap.size o vs).output = V.output) := fun vs o V => by
        have := kept_setCells (g := w.heap.size) vs o V
        exact ⟨this.os, this.tape, this.output⟩
      clear h hv o1 hRI hB1 hB2 hl2 hCS hcl hct hinsl hdl hRl hcs hvs eR eVS hVl h1E h1x hzf hsz hi0 hz0 hzs hzb hold hRA eROW eZL hZl hAl hROWl hG hcn hbig hA1 hkk hik eZ hzc hzn
      go_enter Try.func86, Try.ntmps86
      go_wp2_with (first
        | (at_builtin; refine Lib.wpList_append_run _ rfl _ _ _ _ rfl _ _ rfl rfl _ _ (hrz _) ?_)
        | (at_builtin; refine wpList_copy_runI _ rfl _ _ 24 24 rfl _ _ rfl rfl (hcpA _ hE1 _ _) ?_))
      go_region_law (refine step_copy_runI rfl _ _ 24 24 rfl (.slice (some ⟨w.heap.size, (i + 1) * 7, none⟩) (n - i) (G - (i + 1))) (.slice (some ⟨g, i * 7, none⟩) (n - i) (c - i)) (by simp [Act.eval, Act.put]) (by simp [Act.eval, Act.put]) (hcpB _ _ hE1 hF1 3 (G - (i + 1)) (c - i)) ?_)
      go_wp2
      go_ret
      have hq := unhide HKO VS (i * 7) (w.alloc (.cells ROW.toArray 39)).drew
      exact ⟨w.heap.size, G, rfl, unhide HF _ _ hE1 hF1, unhide HK _ _ (unhide HA2) hF1 hq.1 hq.2.1 hq.2.2, Or.inr (Nat.le_refl _)⟩

set_option maxRecDepth 10000 in
set_option maxHeartbeats 1600000 in
theorem ownCopyLot_blk (ar : Option Addr) (m cr : Nat) (cs : List Value) (w : World) (hcl : cs.length = m * 7) (h1 : ∀ v ∈ cs, v.oneCell' = true) (hsrc : 0 < m → ∃ ad, ar = some ad ∧ ∀ j v, cs[j]? = some v → w.cell? (ad.add j) = some v) (hm : m ≤ 1048576) :
    Calls Try.prog 72 #[.slice ar m cr] w fun e w' => ∃ g, e = .returned (.slice (some ⟨g, 0, none⟩) m m) ∧ w.heap.size ≤ g ∧ Blk w' g 39 cs ∧ Below w.heap.size w w' := by
  have hmk := run_make_recs (P := Try.prog) 24 39 _ 7 56 Try.underlying24 Try.infoLot .i64 .i64 m (by omega) (by omega)
  obtain ⟨Z, eZ⟩ : ∃ Z, Z = (vLot 0 0 0 0 0 0 0).cells := ⟨_, rfl⟩
  rw [← eZ] at hmk
  have hsz : (Try.prog.info? 39).map (·.size) = some 7 := by
    obtain ⟨i0, hi, hzz⟩ := Option.map_eq_some_iff.1 Try.infoLot
    simp only [Prod.mk.injEq] at hzz
    rw [hi, Option.map_some, hzz.2.1]
  have A := Below.alloc1 w (.cells (madeCells Z (m * 7)) 39)
  have hsrc2 : 0 < m → ∃ ad, ar = some ad ∧ ∀ j v, cs[j]? = some v → (w.alloc (.cells (madeCells Z (m * 7)) 39)).cell? (ad.add j) = some v := fun hp => by
    obtain ⟨ad, e, hx⟩ := hsrc hp
    exact ⟨ad, e, fun j v hj => ((A.cell (lt_of_cell (hx j v hj))).trans (hx j v hj))⟩
  obtain ⟨w1, hrun, hO1, hb1⟩ := run_copy_blk (P := Try.prog) 24 24 39 39 7 Try.underlying24 hsz w.heap.size m m ar cr _ cs (Go.Deep.blk_alloc_new _ _) (by rw [size_madeCells, hcl]) hcl hsrc2 h1 w.heap.size w A (Nat.le_refl _)
  have HO1 := hide hO1
  have HW1 := hide hb1
  clear eZ A hsz hsrc2 hO1 hb1 hsrc h1 hcl
  go_enter Try.func72, Try.ntmps72
  go_wp2
  go_ret
  exact ⟨_, rfl, Nat.le_refl _, unhide HO1, unhide HW1⟩

end Go.Proofs.Ytojlkdmlelgcbaa
