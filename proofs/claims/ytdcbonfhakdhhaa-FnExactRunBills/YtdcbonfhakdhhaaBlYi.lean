/- Bills: the specification's DoBill: a bill that is issued. Written by wip/mkbly.py. -/
import Derived.Test.YtdcbonfhakdhhaaBlYw
import Derived.Deep.CutBlock
import Derived.Deep.DeepCutAuto
namespace Go.Proofs.Ytdcbonfhakdhhaa
open Go.RowKit

set_option maxRecDepth 100000 in
set_option maxHeartbeats 8000000 in
theorem specIssue_any (bv fv : Value) (b : BkT) (id : Int) (who tt : ByteArray) (num : Int) (mN : Nat) (w : World) (h : BkIn w bv fv b) (hbd : Bd b) (htx : ∀ x ∈ b.1, TxB x) (hto : txtBillOp (1, id, who, tt, num, (mN : Int)) maxLen) (hbk : bookB b = true) (hop : opB (1, id, who, tt, num, (mN : Int)) = true) :
    Calls Try.prog 9 #[vBook bv fv, vBillOp 1 id who tt num (mN : Int)] w fun e w' => BAns w (doB b (1, id, who, tt, num, (mN : Int))) e w' := by
  have QC := hide fun V (hV : Below w.heap.size w V) => specCopy_any bv fv b V (h.below hV) hbd
  have QB := hide fun V (hV : Below w.heap.size w V) => specBookOk_any bv fv b V (h.below hV) htx
  have QO := hide fun V => specOp_any 1 id who tt num (mN : Int) V hto
  have QF := hide fun V (hV : Below w.heap.size w V) => l14Find_any bv fv b id V (h.below hV)
  have QH := hide fun V (hV : Below w.heap.size w V) => l9Has_any fv b.2 id V (h.2.below hV)
  obtain ⟨L, F⟩ := b
  have h' := h
  obtain ⟨⟨ao, cap0, rfl, hl0, hm0, -⟩, ⟨fo, fcap0, rfl, -⟩⟩ := h'
  dsimp only at hl0
  unfold maxLen at hm0
  have HBD := hide hbd
  obtain ⟨V1, eV1⟩ : ∃ V, V = ((w.alloc (.cells #[.slice ao L.length cap0, .slice fo F.length fcap0] 27)).alloc (.cells #[.int .i64 1, .int .i64 id, .string who, .string tt, .int .i64 num, .int .i64 (mN : Int)] 34)).alloc (.cells #[.slice none 0 0, .slice none 0 0] 27) := ⟨_, rfl⟩
  have hb0 := Below.step (Below.step (Below.alloc1 w (.cells #[.slice ao L.length cap0, .slice fo F.length fcap0] 27)) (Below.alloc1 _ (.cells #[.int .i64 1, .int .i64 id, .string who, .string tt, .int .i64 num, .int .i64 (mN : Int)] 34))) (Below.alloc1 _ (.cells #[.slice none 0 0, .slice none 0 0] 27))
  have h1 := ((ownV_alloc w #[.slice ao L.length cap0, .slice fo F.length fcap0] 27).alloc (.cells #[.int .i64 1, .int .i64 id, .string who, .string tt, .int .i64 num, .int .i64 (mN : Int)] 34)).alloc (.cells #[.slice none 0 0, .slice none 0 0] 27)
  have h2 := ownV_alloc (w.alloc (.cells #[.slice ao L.length cap0, .slice fo F.length fcap0] 27)) #[.int .i64 1, .int .i64 id, .string who, .string tt, .int .i64 num, .int .i64 (mN : Int)] 34
  have h3 := ownV_alloc ((w.alloc (.cells #[.slice ao L.length cap0, .slice fo F.length fcap0] 27)).alloc (.cells #[.int .i64 1, .int .i64 id, .string who, .string tt, .int .i64 num, .int .i64 (mN : Int)] 34)) #[.slice none 0 0, .slice none 0 0] 27
  replace h2 := h2.alloc (.cells #[.slice none 0 0, .slice none 0 0] 27)
  have hsz : V1.heap.size = w.heap.size + 3 := by rw [eV1]; simp only [World.size_alloc]
  simp only [World.size_alloc] at h2 h3
  rw [← eV1] at hb0 h1 h2 h3
  have HW : Hid (Below w.heap.size w V1) := hb0
  have HA : Hid (OwnV V1 w.heap.size [.slice ao L.length cap0, .slice fo F.length fcap0]) := h1
  have HO : Hid (OwnV V1 (w.heap.size + 1) [.int .i64 1, .int .i64 id, .string who, .string tt, .int .i64 num, .int .i64 (mN : Int)]) := h2
  have HR : Hid (OwnV V1 (w.heap.size + 2) [.slice none 0 0, .slice none 0 0]) := h3
  clear h hb0 h1 h2 h3 hbd htx hto
  dsimp only at QC QB QF QH
  have hmn := op_many hop (Or.inl rfl)
  dsimp only at hmn
  have ED0 : Hid (doB (L, F) (1, id, who, tt, num, (mN : Int)) = if hasB L id || decide (30 ≤ L.length) then ((L, F), 2) else ((insL L (plc L id) (id, who, tt, (mN : Int), List.replicate mN who), F), 0)) := by
    show _ = _
    rw [doB, if_neg (by rw [hbk, hop]; simp), if_pos rfl]
    rfl
  have h30 := (book_parts hbk).1
  dsimp only at h30
  rw [has_fnd] at ED0
  have HPL : Hid (∀ k, k ≤ L.length → (∀ t, t < k → bId L t < id) → (k < L.length → id ≤ bId L k) → plc L id = k) := fun k h1 h2 h3 => plc_mk h1 h2 h3
  have QM := hide fun V => specMade_any who mN V (by omega)
  rw [hbk] at QB
  rw [hop] at QO
  generalize fnd L id = fa at *
  clear QH hbk hop
  unfold vBook at QC QB QF
  unfold vBillOp at QO
  unfold vBook vBillOp
  go_enter Try.func9, Try.ntmps9
  go_upto_region 1 with (fail)
  rw [← eV1]
  clear eV1
  have a0 := (unhide HA).cell (i := 0) rfl
  have a1 := (unhide HA).cell (i := 1) rfl
  go_wp2_with fail
  refine (unhide QC _ (unhide HW)).mono ?_
  rintro e wa hs
  obtain ⟨ba, m, cap, f, mf, fcap, E, rfl, eE, hS, hb⟩ := hs
  obtain ⟨V2, eV2⟩ : ∃ V, V = wa.alloc (.cells #[.slice ba m cap, .slice (some ⟨f, 0, none⟩) mf fcap] 27) := ⟨_, rfl⟩
  have A2 := Below.alloc1 wa (.cells #[.slice ba m cap, .slice (some ⟨f, 0, none⟩) mf fcap] 27)
  have HS : Hid (Sd w V2 (.slice ao L.length cap0) (.slice fo F.length fcap0) [.int .i64 1, .int .i64 id, .string who, .string tt, .int .i64 num, .int .i64 (mN : Int)] wa.heap.size ba m cap f mf fcap E F) := by
    have hbs := hb.size
    have hS2 := (hS.mono (A' := sA w.heap.size wa.heap.size) (fun k hk h => by unfold sA; omega)).step A2
    have hx := ownV_alloc wa #[.slice ba m cap, .slice (some ⟨f, 0, none⟩) mf fcap] 27
    show Sd _ _ _ _ _ _ _ _ _ _ _ _ _ _
    rw [eV2]
    exact ⟨Below.step (Below.step (unhide HW) hb) A2, ((unhide HA).step hb).step A2, ((unhide HO).step hb).step A2, ((unhide HR).step hb).step A2, hx, hS2, by omega⟩
  have HE := hide eE
  have hlens := hS.lens
  have hwG : w.heap.size + 2 < wa.heap.size := by have := hb.size; omega
  clear eE hS hb A2 HW HA HO HR a0 a1 hsz
  unfold vBook
  go_upto_region 2 with (fail)
  rw [← eV2]
  clear eV2
  obtain ⟨G, eG⟩ : ∃ g, g = wa.heap.size := ⟨_, rfl⟩
  rw [← eG] at HS hwG ⊢
  clear eG
  have eEl : E.length = L.length := by rw [← unhide HE]; simp [bills]
  obtain ⟨hl1, hl2⟩ := hlens
  have hm : m = L.length := by omega
  have hmf : mf = F.length := hl2.symm
  subst hm hmf
  have HEL := hide eEl
  clear eEl hl1 hl2
  have a0 := (unhide HS).arg.cell (i := 0) rfl
  have a1 := (unhide HS).arg.cell (i := 1) rfl
  go_wp2_with fail
  refine (unhide QB _ (unhide HS).below).mono ?_
  rintro e w1 ⟨rfl, hb⟩
  replace HS := hide ((unhide HS).step hb)
  clear hb QB a0 a1
  have a0 := (unhide HS).arg.cell (i := 0) rfl
  have a1 := (unhide HS).arg.cell (i := 1) rfl
  have o0 := (unhide HS).op.cell (i := 0) rfl
  have o1 := (unhide HS).op.cell (i := 1) rfl
  have o2 := (unhide HS).op.cell (i := 2) rfl
  have o3 := (unhide HS).op.cell (i := 3) rfl
  have o4 := (unhide HS).op.cell (i := 4) rfl
  have o5 := (unhide HS).op.cell (i := 5) rfl
  have b0 := (unhide HS).box.cell (i := 0) rfl
  have b1 := (unhide HS).box.cell (i := 1) rfl
  have bf := (unhide HS).box.frozen
  have r0 := (unhide HS).res.cell (i := 0) rfl
  have r1 := (unhide HS).res.cell (i := 1) rfl
  have rf := (unhide HS).res.frozen
  go_wp2_with fail
  refine (unhide QO _).mono ?_
  rintro e w2 ⟨rfl, hb⟩
  replace HS := hide ((unhide HS).step hb)
  clear hb QO
  clear a0 a1 o0 o1 o2 o3 o4 o5 b0 b1 bf r0 r1 rf
  have a0 := (unhide HS).arg.cell (i := 0) rfl
  have a1 := (unhide HS).arg.cell (i := 1) rfl
  have o0 := (unhide HS).op.cell (i := 0) rfl
  have o1 := (unhide HS).op.cell (i := 1) rfl
  have o2 := (unhide HS).op.cell (i := 2) rfl
  have o3 := (unhide HS).op.cell (i := 3) rfl
  have o4 := (unhide HS).op.cell (i := 4) rfl
  have o5 := (unhide HS).op.cell (i := 5) rfl
  have b0 := (unhide HS).box.cell (i := 0) rfl
  have b1 := (unhide HS).box.cell (i := 1) rfl
  have bf := (unhide HS).box.frozen
  have r0 := (unhide HS).res.cell (i := 0) rfl
  have r1 := (unhide HS).res.cell (i := 1) rfl
  have rf := (unhide HS).res.frozen
  go_wp2_with fail
  refine (unhide QF _ (unhide HS).below).mono ?_
  rintro e w3 ⟨rfl, hb⟩
  replace HS := hide ((unhide HS).step hb)
  clear hb QF
  clear a0 a1 o0 o1 o2 o3 o4 o5 b0 b1 bf r0 r1 rf
  have a0 := (unhide HS).arg.cell (i := 0) rfl
  have a1 := (unhide HS).arg.cell (i := 1) rfl
  have o0 := (unhide HS).op.cell (i := 0) rfl
  have o1 := (unhide HS).op.cell (i := 1) rfl
  have o2 := (unhide HS).op.cell (i := 2) rfl
  have o3 := (unhide HS).op.cell (i := 3) rfl
  have o4 := (unhide HS).op.cell (i := 4) rfl
  have o5 := (unhide HS).op.cell (i := 5) rfl
  have b0 := (unhide HS).box.cell (i := 0) rfl
  have b1 := (unhide HS).box.cell (i := 1) rfl
  have bf := (unhide HS).box.frozen
  have r0 := (unhide HS).res.cell (i := 0) rfl
  have r1 := (unhide HS).res.cell (i := 1) rfl
  have rf := (unhide HS).res.frozen
  by_cases hat : 0 ≤ fa
  · have ED : Hid (doB (L, F) (1, id, who, tt, num, (mN : Int)) = ((L, F), 2)) := by show _ = _; rw [unhide ED0, decide_eq_true hat]; rfl
    clear ED0 HPL QM
    have HF := hide (unhide HS).fin
    have hn1 : ¬ G = w.heap.size + 2 := by omega
    go_wp2
    have k0 := (unhide HF).1.cell (i := 0) rfl
    have k1 := (unhide HF).1.cell (i := 1) rfl
    refine bodyPost_ret (v := .tuple #[vBook (.slice ba L.length cap) (.slice (some ⟨f, 0, none⟩) F.length fcap), .int .i64 2]) (by simp [results, Try.results9, go_sem, vBook, k0, k1]) rfl ?_
    show BAns _ _ _ _
    rw [unhide ED]
    have hin := (unhide HF).2.1
    rw [unhide HE] at hin
    exact ⟨_, _, rfl, hin, (unhide HF).2.2⟩
  by_cases h3 : L.length = 30
  · have ED : Hid (doB (L, F) (1, id, who, tt, num, (mN : Int)) = ((L, F), 2)) := by show _ = _; rw [unhide ED0, decide_eq_true (show 30 ≤ L.length by omega)]; simp
    have d3 : ((L.length : Int) == 30) = true := by simp [h3]
    clear ED0 HPL QM h3 h30
    have HF := hide (unhide HS).fin
    have hn1 : ¬ G = w.heap.size + 2 := by omega
    go_wp2
    have k0 := (unhide HF).1.cell (i := 0) rfl
    have k1 := (unhide HF).1.cell (i := 1) rfl
    refine bodyPost_ret (v := .tuple #[vBook (.slice ba L.length cap) (.slice (some ⟨f, 0, none⟩) F.length fcap), .int .i64 2]) (by simp [results, Try.results9, go_sem, vBook, k0, k1]) rfl ?_
    show BAns _ _ _ _
    rw [unhide ED]
    have hin := (unhide HF).2.1
    rw [unhide HE] at hin
    exact ⟨_, _, rfl, hin, (unhide HF).2.2⟩
  have d3 : ((L.length : Int) == 30) = false := by rw [beq_eq_false_iff_ne]; omega
  have ED : Hid (doB (L, F) (1, id, who, tt, num, (mN : Int)) = ((insL L (plc L id) (id, who, tt, (mN : Int), List.replicate mN who), F), 0)) := by
    show _ = _
    rw [unhide ED0, decide_eq_false hat, decide_eq_false (show ¬ 30 ≤ L.length by omega)]; rfl
  clear ED0
  go_upto_block 0 with (fail)
  clear a0 a1 o0 o1 o2 o3 o4 o5 b0 b1 bf r0 r1 rf
  go_cut [8] (fun s8 wx => ∃ k : Nat, s8 = .int .i64 (k : Int) ∧ k ≤ L.length ∧ Hid (Sd w wx (.slice ao L.length cap0) (.slice fo F.length fcap0) [.int .i64 1, .int .i64 id, .string who, .string tt, .int .i64 num, .int .i64 (mN : Int)] G ba L.length cap f F.length fcap E F) ∧ Hid (plc L id = k))
  case first =>
    go_wp2_with fail
    go_loopg [8] L.length (fun gg iv wr => ∃ k : Nat, k ≤ L.length ∧ gg = L.length - k ∧ iv = .int .i64 k ∧ Hid (Sd w wr (.slice ao L.length cap0) (.slice fo F.length fcap0) [.int .i64 1, .int .i64 id, .string who, .string tt, .int .i64 num, .int .i64 (mN : Int)] G ba L.length cap f F.length fcap E F) ∧ Hid (∀ t, t < k → bId L t < id))
    case atStart => exact ⟨0, Nat.zero_le _, rfl, rfl, HS, fun t ht => by omega⟩
    case round =>
      clear HS
      obtain ⟨k, hk, rfl, rfl, HS, HT⟩ := hrel
      have a0 := (unhide HS).arg.cell (i := 0) rfl
      have a1 := (unhide HS).arg.cell (i := 1) rfl
      have o0 := (unhide HS).op.cell (i := 0) rfl
      have o1 := (unhide HS).op.cell (i := 1) rfl
      have o2 := (unhide HS).op.cell (i := 2) rfl
      have o3 := (unhide HS).op.cell (i := 3) rfl
      have o4 := (unhide HS).op.cell (i := 4) rfl
      have o5 := (unhide HS).op.cell (i := 5) rfl
      have b0 := (unhide HS).box.cell (i := 0) rfl
      have b1 := (unhide HS).box.cell (i := 1) rfl
      have bf := (unhide HS).box.frozen
      have r0 := (unhide HS).res.cell (i := 0) rfl
      have r1 := (unhide HS).res.cell (i := 1) rfl
      have rf := (unhide HS).res.frozen
      by_cases hkn : k < L.length
      · have hki : (k : Int) < L.length := by omega
        obtain ⟨g, hg, hP⟩ := (unhide HS).bk.pbk (fun e => by have := unhide HEL; rw [e] at this; simp at this; omega)
        have hcl : wr.cell? ⟨g, k * 5, none⟩ = some (.int .i64 (bId L k)) := by
          have h1 := (hP.row.ownG (by omega)).1.cell (recCells_get (n := 5) (enc := eBl) (L := E) (i := k) (j := 0) (by rw [unhide HEL]; exact hkn) (by omega))
          have h2 : bId L k = (E.getD k default).1.1 := by
            rw [← unhide HE, bId, getD_lt (by rw [List.length_map, unhide HEL]; exact hkn), getD_lt (by rw [unhide HEL]; exact hkn)]
            simp
          rw [h2]; exact h1
        clear hP
        subst hg
        have hc0 := (unhide HS).bk.row.len (by omega)
        have hcc := ((unhide HS).bk.row.ownG (by omega)).2.1
        have hcm := ((unhide HS).bk.row.ownG (by omega)).2.2.1
        unfold maxLen at hcm
        by_cases hlt : bId L k < id
        · have HT' : Hid (∀ t, t < k + 1 → bId L t < id) := fun t ht => by
            by_cases e : t = k
            · rw [e]; exact hlt
            · exact unhide HT t (by omega)
          generalize bId L k = y at *
          have dl : decide (y < id) = true := by simpa using hlt
          clear HT
          go_upto_region 9 with (fail)
          refine wp_region_quiet_lit (by kernel_rfl) (by kernel_rfl) ?_
          repeat (go_big_quiet_step (fail))
          refine wpQuiet_nil ?_
          intro _ hw'
          obtain ⟨nq, hw''⟩ := hw'
          subst hw''
          replace HS := hide ((unhide HS).drewN nq)
          clear a0 a1 o0 o1 o2 o3 o4 o5 b0 b1 bf r0 r1 rf
          have a0 := (unhide HS).arg.cell (i := 0) rfl
          have a1 := (unhide HS).arg.cell (i := 1) rfl
          have o0 := (unhide HS).op.cell (i := 0) rfl
          have o1 := (unhide HS).op.cell (i := 1) rfl
          have o2 := (unhide HS).op.cell (i := 2) rfl
          have o3 := (unhide HS).op.cell (i := 3) rfl
          have o4 := (unhide HS).op.cell (i := 4) rfl
          have o5 := (unhide HS).op.cell (i := 5) rfl
          have b0 := (unhide HS).box.cell (i := 0) rfl
          have b1 := (unhide HS).box.cell (i := 1) rfl
          have bf := (unhide HS).box.frozen
          have r0 := (unhide HS).res.cell (i := 0) rfl
          have r1 := (unhide HS).res.cell (i := 1) rfl
          have rf := (unhide HS).res.frozen
          go_wp2
          go_roundg (L.length - (k + 1))
          case measure => omega
          case rel => exact ⟨k + 1, by omega, rfl, by go_num, HS, HT'⟩
        · have EP := hide (unhide HPL k hk (unhide HT) (fun _ => by omega))
          generalize bId L k = y at hcl hlt
          have dl : decide (y < id) = false := by simpa using hlt
          clear HT
          go_upto_region 9 with (fail)
          refine wp_region_quiet_lit (by kernel_rfl) (by kernel_rfl) ?_
          repeat (go_big_quiet_step (fail))
          refine wpQuiet_nil ?_
          intro _ hw'
          obtain ⟨nq, hw''⟩ := hw'
          subst hw''
          replace HS := hide ((unhide HS).drewN nq)
          clear a0 a1 o0 o1 o2 o3 o4 o5 b0 b1 bf r0 r1 rf
          have a0 := (unhide HS).arg.cell (i := 0) rfl
          have a1 := (unhide HS).arg.cell (i := 1) rfl
          have o0 := (unhide HS).op.cell (i := 0) rfl
          have o1 := (unhide HS).op.cell (i := 1) rfl
          have o2 := (unhide HS).op.cell (i := 2) rfl
          have o3 := (unhide HS).op.cell (i := 3) rfl
          have o4 := (unhide HS).op.cell (i := 4) rfl
          have o5 := (unhide HS).op.cell (i := 5) rfl
          have b0 := (unhide HS).box.cell (i := 0) rfl
          have b1 := (unhide HS).box.cell (i := 1) rfl
          have bf := (unhide HS).box.frozen
          have r0 := (unhide HS).res.cell (i := 0) rfl
          have r1 := (unhide HS).res.cell (i := 1) rfl
          have rf := (unhide HS).res.frozen
          go_wp2_with fail
          go_meet
          exact ⟨k, rfl, hk, HS, EP⟩
      · have hki : ¬ (k : Int) < L.length := by omega
        have EP := hide (unhide HPL k hk (unhide HT) (fun h => absurd h hkn))
        go_upto_region 9 with (fail)
        refine wp_region_quiet_lit (by kernel_rfl) (by kernel_rfl) ?_
        repeat (go_big_quiet_step (fail))
        refine wpQuiet_nil ?_
        intro _ hw'
        obtain ⟨nq, hw''⟩ := hw'
        subst hw''
        replace HS := hide ((unhide HS).drewN nq)
        clear a0 a1 o0 o1 o2 o3 o4 o5 b0 b1 bf r0 r1 rf
        have a0 := (unhide HS).arg.cell (i := 0) rfl
        have a1 := (unhide HS).arg.cell (i := 1) rfl
        have o0 := (unhide HS).op.cell (i := 0) rfl
        have o1 := (unhide HS).op.cell (i := 1) rfl
        have o2 := (unhide HS).op.cell (i := 2) rfl
        have o3 := (unhide HS).op.cell (i := 3) rfl
        have o4 := (unhide HS).op.cell (i := 4) rfl
        have o5 := (unhide HS).op.cell (i := 5) rfl
        have b0 := (unhide HS).box.cell (i := 0) rfl
        have b1 := (unhide HS).box.cell (i := 1) rfl
        have bf := (unhide HS).box.frozen
        have r0 := (unhide HS).res.cell (i := 0) rfl
        have r1 := (unhide HS).res.cell (i := 1) rfl
        have rf := (unhide HS).res.frozen
        go_wp2_with fail
        go_meet
        exact ⟨k, rfl, hk, HS, EP⟩
  case rest =>
    obtain ⟨k, rfl, hk, HS, EP⟩ := hcut
    clear HPL
    obtain ⟨X, eX⟩ : ∃ X, X = wc := ⟨_, rfl⟩
    rw [← eX] at HS ⊢
    clear eX
    have a0 := (unhide HS).arg.cell (i := 0) rfl
    have a1 := (unhide HS).arg.cell (i := 1) rfl
    have o0 := (unhide HS).op.cell (i := 0) rfl
    have o1 := (unhide HS).op.cell (i := 1) rfl
    have o2 := (unhide HS).op.cell (i := 2) rfl
    have o3 := (unhide HS).op.cell (i := 3) rfl
    have o4 := (unhide HS).op.cell (i := 4) rfl
    have o5 := (unhide HS).op.cell (i := 5) rfl
    have b0 := (unhide HS).box.cell (i := 0) rfl
    have b1 := (unhide HS).box.cell (i := 1) rfl
    have bf := (unhide HS).box.frozen
    have r0 := (unhide HS).res.cell (i := 0) rfl
    have r1 := (unhide HS).res.cell (i := 1) rfl
    have rf := (unhide HS).res.frozen
    go_upto_region 11 with (fail)
    have hXo := (unhide HS).op.lt
    have hq1 : ¬ X.heap.size = w.heap.size + 1 := by omega
    have hq2 : ¬ w.heap.size + 1 = X.heap.size := by omega
    go_cut [9] (fun s9 wx => ∃ gx gh hc : Nat, s9 = .pointer (some ⟨gx, 0, none⟩) ∧ X.heap.size ≤ gx ∧ gh ≠ gx ∧ X.heap.size ≤ gh ∧ mN ≤ hc ∧ hc ≤ maxLen ∧ Hid (Below X.heap.size X wx) ∧ Hid (OwnV wx gx [.int .i64 id, .string who, .string tt, .int .i64 (mN : Int), .slice (some ⟨gh, 0, none⟩) mN hc]) ∧ Hid (OwnV wx gh (strs (List.replicate mN who))))
    case first =>
      go_region_held3 (fun w' => w'.cell? ⟨w.heap.size + 1, 1, none⟩ = some (.int .i64 id) ∧ w'.cell? ⟨w.heap.size + 1, 2, none⟩ = some (.string who) ∧ w'.cell? ⟨w.heap.size + 1, 3, none⟩ = some (.string tt) ∧ w'.cell? ⟨w.heap.size + 1, 5, none⟩ = some (.int .i64 (mN : Int))) (go_keep) (first | (go_at_call 40; refine (unhide QM _).mono ?_; rintro e wb ⟨gh, hc, rfl, hg, hgc, hcm, hG, hb⟩; (first | (have HB : Hid (Below X.heap.size X wb) := hb) | (have HB : Hid (Below X.heap.size X wb) := below_undrewA hb) | (have HB : Hid (Below X.heap.size X wb) := Below.step (Below.alloc1 _ _) hb) | (have HB : Hid (Below X.heap.size X wb) := Below.step (Below.alloc1 _ _) (below_undrewA hb))); (try (have HNW := hide (OwnV.step (ownV_alloc X _ _) hb))); (try (have HNW := hide (OwnV.step (OwnV.drew (ownV_alloc X _ _)) hb))); (try (have hgl : X.heap.size < gh := Nat.lt_of_lt_of_le (OwnV.lt (ownV_alloc X _ _)) hg)); (first | (have hgX : X.heap.size ≤ gh := hg) | (have hgX : X.heap.size ≤ gh := Nat.le_trans (Below.alloc1 _ _).size hg)); have hgw := hG.lt; (try (have n0 := (unhide HNW).cell (i := 0) rfl; have n1 := (unhide HNW).cell (i := 1) rfl; have n2 := (unhide HNW).cell (i := 2) rfl; have n3 := (unhide HNW).cell (i := 3) rfl; have n4 := (unhide HNW).cell (i := 4) rfl; have nf := (unhide HNW).frozen)); have HG := hide hG; have HS2 := hide ((unhide HS).step (unhide HB)); have t1 := (unhide HS2).op.cell (i := 1) rfl; have t2 := (unhide HS2).op.cell (i := 2) rfl; have t3 := (unhide HS2).op.cell (i := 3) rfl; have t5 := (unhide HS2).op.cell (i := 5) rfl; have hbs := (unhide HB).size; clear hb hG))
      all_goals
        go_wp2_with fail
        go_meet
        first
          | (have hq := hgl; exact ⟨X.heap.size, gh, hc, rfl, Nat.le_refl _, by omega, hgX, hgc, hcm, hide ((((((unhide HB).setCell (p := ⟨X.heap.size, 0, none⟩) (Nat.le_refl _) (.int .i64 id)).setCell (p := ⟨X.heap.size, 1, none⟩) (Nat.le_refl _) (.string who)).setCell (p := ⟨X.heap.size, 2, none⟩) (Nat.le_refl _) (.string tt)).setCell (p := ⟨X.heap.size, 3, none⟩) (Nat.le_refl _) (.int .i64 (mN : Int))).setCell (p := ⟨X.heap.size, 4, none⟩) (Nat.le_refl _) (.slice (some ⟨gh, 0, none⟩) mN hc)), hide ((((((unhide HNW).set 0 (.int .i64 id) (by simp)).set 1 (.string who) (by simp)).set 2 (.string tt) (by simp)).set 3 (.int .i64 (mN : Int)) (by simp)).set 4 (.slice (some ⟨gh, 0, none⟩) mN hc) (by simp)), hide (far5 (unhide HG) (by omega) (.int .i64 id) (.string who) (.string tt) (.int .i64 (mN : Int)) (.slice (some ⟨gh, 0, none⟩) mN hc))⟩)
          | exact ⟨wb.heap.size, gh, hc, rfl, hbs, by omega, hgX, hgc, hcm, hide (Below.step (unhide HB) (Below.alloc1 _ _)), hide (ownV_alloc wb #[.int .i64 id, .string who, .string tt, .int .i64 (mN : Int), .slice (some ⟨gh, 0, none⟩) mN hc] 40), hide ((unhide HG).step (Below.alloc1 _ _))⟩
    case rest =>
      clear QM a0 a1 o0 o1 o2 o3 o4 o5 b0 b1 bf r0 r1 rf hq1 hq2 hXo
      obtain ⟨gx, gh, hc, rfl, p1, p2, p3, p4, p5, HB, HX, HG⟩ := hcut
      generalize wc = Y at *
      have hXY := (unhide HB).size
      have HSY := hide ((unhide HS).step (unhide HB))
      have b0 := (unhide HSY).box.cell (i := 0) rfl
      have bf := (unhide HSY).box.frozen
      have x0 := (unhide HX).cell (i := 0) rfl
      have x1 := (unhide HX).cell (i := 1) rfl
      have x2 := (unhide HX).cell (i := 2) rfl
      have x3 := (unhide HX).cell (i := 3) rfl
      have x4 := (unhide HX).cell (i := 4) rfl
      have HRB : Hid (RowB 40 5 eBl 0 (Y.alloc (.cells #[.int .i64 id, .string who, .string tt, .int .i64 (mN : Int), .slice (some ⟨gh, 0, none⟩) mN hc] 40)) (some ⟨Y.heap.size, 0, none⟩) 1 1 [((id, who, tt, (mN : Int), List.replicate mN who), gh, hc)]) := by
        have hb : Blk (Y.alloc (.cells #[.int .i64 id, .string who, .string tt, .int .i64 (mN : Int), .slice (some ⟨gh, 0, none⟩) mN hc] 40)) Y.heap.size 40 (recCells 5 eBl [((id, who, tt, (mN : Int), List.replicate mN who), gh, hc)]) := by
          unfold Blk
          rw [recCells_one, show ((List.range 5).map (eBl ((id, who, tt, (mN : Int), List.replicate mN who), gh, hc))).toArray = #[.int .i64 id, .string who, .string tt, .int .i64 (mN : Int), .slice (some ⟨gh, 0, none⟩) mN hc] from by simp [List.range_succ, eBl]]
          exact Go.Deep.blk_alloc_new _ _
        exact hb.row (L := [((id, who, tt, (mN : Int), List.replicate mN who), gh, hc)]) (by simp)
      have HRE := hide ((unhide HSY).bk.row.below (Below.alloc1 Y (.cells #[.int .i64 id, .string who, .string tt, .int .i64 (mN : Int), .slice (some ⟨gh, 0, none⟩) mN hc] 40))).recs (by omega)
      have hkk : (k : Int) ≤ L.length := by omega
      obtain ⟨da, eda⟩ : ∃ da : Option Addr, da = (if cap = k then ba else (ba : Option Addr).map (·.add (k * 5))) := ⟨_, rfl⟩
      have hsl : ∀ V, (Instr.slice 24 (.slice ba L.length cap) (some (.int .i64 (k : Int))) none none).run Try.prog V = .ok (.slice da (L.length - k) (cap - k)) V := fun V => by
        rw [eda]
        simp [go_sem, hkk]
      have hsl2 : ∀ V, (Instr.sliceAt 24 (.slice ba L.length cap) (some (.int .i64 (k : Int))) none none).run Try.prog V = .ok (.slice da (L.length - k) (cap - k)) V := fun V => by
        rw [eda]
        simp [go_sem, hkk]
      have HRD := hide (recs_drop (k := k) (unhide HRE))
      rw [← eda] at HRD
      clear eda HRE
      have b0a := ((unhide HSY).step (Below.alloc1 Y (.cells #[.int .i64 id, .string who, .string tt, .int .i64 (mN : Int), .slice (some ⟨gh, 0, none⟩) mN hc] 40))).box.cell (i := 0) rfl
      have hGY := (unhide HSY).box.lt
      go_upto_region 12 with (fail)
      go_cut [10] (fun s10 wx => ∃ gr cr : Nat, s10 = .slice (some ⟨gr, 0, none⟩) (1 + (L.length - k)) cr ∧ Y.heap.size ≤ gr ∧ Hid (RowB 40 5 eBl 0 wx (some ⟨gr, 0, none⟩) (1 + (L.length - k)) cr ([((id, who, tt, (mN : Int), List.replicate mN who), gh, hc)] ++ E.drop k)) ∧ Hid (Below Y.heap.size Y wx))
      case first =>
        go_region_law (first | (refine step_appTo tyB (by rfl) (.tmp 75) (.tmp 79) (by rfl) 0 Y.heap.size 1 1 [((id, who, tt, (mN : Int), List.replicate mN who), gh, hc)] (by rfl) (by first | exact unhide HRB | exact (unhide HRB).below (Below.refl _ _).drew) (Nat.zero_le _) (by omega) da (L.length - k) (cap - k) (E.drop k) (by rfl) (by first | exact unhide HRD | exact RecsIn.below (unhide HRD) (Below.refl _ _).drew) (by omega) ?_; intro gr cr wr2 hL hK hor; have HLR := hide hL; have HBR : Hid (Below Y.heap.size Y wr2) := (by first | exact (Below.alloc1 _ _).trans (hK.below (Below.alloc1 _ _).size (fun b e => by omega)) | exact (Below.alloc1 _ _).drew.trans (hK.below (Below.alloc1 _ _).size (fun b e => by omega))); have hgr : Y.heap.size ≤ gr := hor.elim (fun e => by omega) (fun e => by rw [e]; exact (Below.alloc1 _ _).size); clear hL hK hor))
        all_goals
          go_wp2_with fail
          go_meet
          first
            | exact ⟨gr, cr, rfl, hgr, HLR, HBR⟩
            | exact ⟨gr, cr, rfl, hgr, hide ((unhide HLR).below (Below.refl _ _).drew), hide (unhide HBR).drew⟩
      case rest =>
        obtain ⟨gr, cr, rfl, q1, HLR, HBR⟩ := hcut
        generalize wc = Z at *
        clear x0 x1 x2 x3 x4 HRB HRD b0 bf b0a hsl hsl2 hGY
        have hYZ := (unhide HBR).size
        have HSZ := hide ((unhide HSY).step (unhide HBR))
        have hgrZ := ((unhide HLR).ownG (by omega)).2.2.2.1
        have A13 := Below.alloc1 Z (.cells #[] 40)
        have HN := hide (rowB_new 40 5 eBl Z 0 (Nat.zero_le _))
        have HRT := hide (recs_take (k := k) (((unhide HSZ).bk.row.below A13).recs (by omega)) hk)
        have hba : ba = none ∨ ∃ g, ba = some ⟨g, 0, none⟩ := by
          rcases (unhide HSZ).bk.row.parts (by omega) with ⟨e, _⟩ | ⟨g, e, _⟩
          · exact Or.inl e
          · exact Or.inr ⟨g, e⟩
        have hcapk : (k : Int) ≤ cap := by have := (recs_len ((unhide HSZ).bk.row.recs (by omega))).2.1; omega
        have hs1 := fun V => slice_hi (m := L.length) hba hcapk V
        have hs2 := fun V => sliceAt_hi (m := L.length) hba hcapk V
        have b0a := ((unhide HSZ).step A13).box.cell (i := 0) rfl
        have HZ1 := hide A13
        clear A13 hba
        go_upto_region 14 with (at_builtin; first | ((have xx := unhide HL1; clear xx); go_must (refine wpList_appTo tyB _ rfl (.tmp 86) (.tmp 87) rfl 0 g1 k c1 (E.take k) rfl (unhide HL1) (Nat.zero_le _) (by omega) (some ⟨gr, 0, none⟩) (1 + (L.length - k)) cr ([((id, who, tt, (mN : Int), List.replicate mN who), gh, hc)] ++ E.drop k) rfl (unhide HLR1) (by omega) ?_); intro g2 c2 w2 hL hK hor; have HL2 := hide hL; have HBZ2 : Hid (Below Z.heap.size Z w2) := (unhide HBZ).trans (hK.below (unhide HBZ).size (fun b e => by omega)); have hg2 : Z.heap.size ≤ g2 := hor.elim (fun e => by omega) (fun e => by rw [e]; exact (unhide HBZ).size); have b0c := ((unhide HSZ).step (unhide HBZ2)).box.cell (i := 0) rfl; have bfc := ((unhide HSZ).step (unhide HBZ2)).box.frozen; clear hL hK hor) | (go_must (refine wpList_appTo tyB _ rfl (.tmp 81) (.tmp 85) rfl 0 Z.heap.size 0 0 [] rfl (unhide HN) (Nat.zero_le _) (by omega) ba k cap (E.take k) rfl (unhide HRT) (by omega) ?_); intro g1 c1 w1 hL hK hor; rw [Nat.zero_add, List.nil_append] at hL; have HL1 := hide hL; have HBZ : Hid (Below Z.heap.size Z w1) := (unhide HZ1).trans (hK.below (unhide HZ1).size (fun b e => by omega)); have HLR1 := hide (((unhide HLR).kept (kept_of_below (T := fun _ => False) (unhide HBZ)) (fun _ _ _ _ h => h)).recs (by omega)); have hg1 : Z.heap.size ≤ g1 := hor.elim (fun e => by omega) (fun e => by rw [e]; exact (unhide HZ1).size); have hg1w := (hL.ownG (by omega)).2.2.2.1; clear hL hK hor))
        have eLn : k + (1 + (L.length - k)) = L.length + 1 := by omega
        rw [eLn] at HL2 ⊢
        have hghY := (unhide HG).lt
        have HS9 := hide ((unhide HS).ins (x := ((id, who, tt, (mN : Int), List.replicate mN who), gh, hc)) (k := k) (Below.step (Below.step (unhide HB) (unhide HBR)) (unhide HBZ2)) (((unhide HG).step (unhide HBR)).step (unhide HBZ2)) (by simp; exact p4) p5 p3 (by omega) (by show gh ≠ g2; omega) (unhide HL2))
        obtain ⟨V9, eV9⟩ : ∃ V, V = w2.setCell ⟨G, 0, none⟩ (.slice (some ⟨g2, 0, none⟩) (L.length + 1) c2) := ⟨_, rfl⟩
        rw [← eV9] at HS9 ⊢
        have HE9 : Hid (bills (insL E k ((id, who, tt, (mN : Int), List.replicate mN who), gh, hc)) = insL L k (id, who, tt, (mN : Int), List.replicate mN who)) := by show _ = _; rw [bills_ins, unhide HE]
        have ED9 : Hid (doB (L, F) (1, id, who, tt, num, (mN : Int)) = ((insL L k (id, who, tt, (mN : Int), List.replicate mN who), F), 0)) := by show _ = _; rw [unhide ED, unhide EP]
        clear eV9 eLn HL1 HL2 HLR HLR1 HBZ HBZ2 HBR HB HN HRT HZ1 HG HE ED HS HSY HSZ b0a b0c bfc hs1 hs2 hcapk
        generalize insL E k ((id, who, tt, (mN : Int), List.replicate mN who), gh, hc) = E9 at *
        have HS := HS9
        have HE := HE9
        have ED := ED9
        clear HS9 HE9 ED9
        have a0 := (unhide HS).arg.cell (i := 0) rfl
        have a1 := (unhide HS).arg.cell (i := 1) rfl
        have o0 := (unhide HS).op.cell (i := 0) rfl
        have o1 := (unhide HS).op.cell (i := 1) rfl
        have o2 := (unhide HS).op.cell (i := 2) rfl
        have o3 := (unhide HS).op.cell (i := 3) rfl
        have o4 := (unhide HS).op.cell (i := 4) rfl
        have o5 := (unhide HS).op.cell (i := 5) rfl
        have b0 := (unhide HS).box.cell (i := 0) rfl
        have b1 := (unhide HS).box.cell (i := 1) rfl
        have bf := (unhide HS).box.frozen
        have r0 := (unhide HS).res.cell (i := 0) rfl
        have r1 := (unhide HS).res.cell (i := 1) rfl
        have rf := (unhide HS).res.frozen
        have HF := hide (unhide HS).fin
        have hn1 : ¬ G = w.heap.size + 2 := by omega
        go_wp2
        have k0 := (unhide HF).1.cell (i := 0) rfl
        have k1 := (unhide HF).1.cell (i := 1) rfl
        refine bodyPost_ret (v := .tuple #[vBook (.slice (some ⟨g2, 0, none⟩) (L.length + 1) c2) (.slice (some ⟨f, 0, none⟩) F.length fcap), .int .i64 0]) (by simp [results, Try.results9, go_sem, vBook, k0, k1]) rfl ?_
        show BAns _ _ _ _
        rw [unhide ED]
        have hin := (unhide HF).2.1
        rw [unhide HE] at hin
        exact ⟨_, _, rfl, hin, (unhide HF).2.2⟩

end Go.Proofs.Ytdcbonfhakdhhaa
