/- Bills: the specification's DoBill on a bill that is there and is given up. Written by wip/mkblz.py. -/
import Derived.Test.YtdcbonfhakdhhaaBlZ
import Derived.Deep.CutBlock
import Derived.Deep.DeepCutAuto
namespace Go.Proofs.Ytdcbonfhakdhhaa
open Go.RowKit
theorem slice_hiI {ba : Option Addr} {m cap k : Nat} (h : ∃ g, ba = some ⟨g, 0, none⟩) (hk : (k : Int) ≤ cap) (V : World) : (Instr.slice 25 (.slice ba m cap) none (some (.int .i64 (k : Int))) none).run Try.prog V = .ok (.slice ba k cap) V := by
  obtain ⟨g, rfl⟩ := h
  simp [go_sem, hk, Addr.add]
theorem sliceAt_hiI {ba : Option Addr} {m cap k : Nat} (h : ∃ g, ba = some ⟨g, 0, none⟩) (hk : (k : Int) ≤ cap) (V : World) : (Instr.sliceAt 25 (.slice ba m cap) none (some (.int .i64 (k : Int))) none).run Try.prog V = .ok (.slice ba k cap) V := by
  obtain ⟨g, rfl⟩ := h
  simp [go_sem, hk, Addr.add]
/-- A row of freed bills, written anew. -/
theorem Sd.free {w X X1 : World} {av fv : Value} {ov : List Value} {G : Nat} {ba : Option Addr} {m cap f mf fcap f2 c2 : Nat} {E : List EBl} {F F2 : List Int} (h : Sd w X av fv ov G ba m cap f mf fcap E F) (hb : Below X.heap.size X X1)
    (hr : RowB 3 1 eI 0 X1 (some ⟨f2, 0, none⟩) (mf + 1) c2 F2) (hf2 : X.heap.size ≤ f2) : Sd w (X1.setCell ⟨G, 1, none⟩ (.slice (some ⟨f2, 0, none⟩) (mf + 1) c2)) av fv ov G ba m cap f2 (mf + 1) c2 E F2 := by
  have hG := h.box.lt
  have hap := h.ap
  have h1 := h.step hb
  have bk1 : SBk (sA w.heap.size G) X1 ba m cap f2 (mf + 1) c2 E F2 := ⟨h1.bk.row, fun g e => ⟨(h1.bk.top g e).1, (h1.bk.top g e).2.1, by have := (h.bk.top g e).2.1; omega, (h1.bk.top g e).2.2.2⟩, h1.bk.hld, h1.bk.apart, hr, by unfold sA; omega, fun x hx => by have := (h.bk.hld x hx).1.lt; omega⟩
  have e : [Value.slice ba m cap, .slice (some ⟨f2, 0, none⟩) (mf + 1) c2] = [Value.slice ba m cap, .slice (some ⟨f, 0, none⟩) mf fcap].set 1 (.slice (some ⟨f2, 0, none⟩) (mf + 1) c2) := rfl
  refine ⟨h1.below.setCell (p := ⟨G, 1, none⟩) (by show w.heap.size ≤ G; omega) _, h1.arg.other (a := ⟨G, 1, none⟩) (by show w.heap.size ≠ G; omega) _, h1.op.other (a := ⟨G, 1, none⟩) (by show w.heap.size + 1 ≠ G; omega) _, h1.res.other (a := ⟨G, 1, none⟩) (by show w.heap.size + 2 ≠ G; omega) _, by rw [e]; exact h1.box.set 1 _ (by simp), bk1.far (b := G) (i := 1) (u := .slice (some ⟨f2, 0, none⟩) (mf + 1) c2) (by unfold sA; omega), h.ap⟩

set_option maxRecDepth 100000 in
set_option maxHeartbeats 8000000 in
theorem specFree_any (bv fv : Value) (b : BkT) (kd id : Int) (who tt : ByteArray) (num many : Int) (w : World) (h : BkIn w bv fv b) (hbd : Bd b) (htx : ∀ x ∈ b.1, TxB x) (hto : txtBillOp (kd, id, who, tt, num, many) maxLen) (hbk : bookB b = true) (hop : opB (kd, id, who, tt, num, many) = true) (hk1 : kd ≠ 1) (hk4 : kd = 4) :
    Calls Try.prog 9 #[vBook bv fv, vBillOp kd id who tt num many] w fun e w' => BAns w (doB b (kd, id, who, tt, num, many)) e w' := by
  have QC := hide fun V (hV : Below w.heap.size w V) => specCopy_any bv fv b V (h.below hV) hbd
  have QB := hide fun V (hV : Below w.heap.size w V) => specBookOk_any bv fv b V (h.below hV) htx
  have QO := hide fun V => specOp_any kd id who tt num many V hto
  have QF := hide fun V (hV : Below w.heap.size w V) => l14Find_any bv fv b id V (h.below hV)
  have QH := hide fun V (hV : Below w.heap.size w V) => l9Has_any fv b.2 id V (h.2.below hV)
  obtain ⟨L, F⟩ := b
  have h' := h
  obtain ⟨⟨ao, cap0, rfl, hl0, hm0, -⟩, ⟨fo, fcap0, rfl, -⟩⟩ := h'
  dsimp only at hl0
  unfold maxLen at hm0
  have HBD := hide hbd
  obtain ⟨V1, eV1⟩ : ∃ V, V = ((w.alloc (.cells #[.slice ao L.length cap0, .slice fo F.length fcap0] 27)).alloc (.cells #[.int .i64 kd, .int .i64 id, .string who, .string tt, .int .i64 num, .int .i64 many] 34)).alloc (.cells #[.slice none 0 0, .slice none 0 0] 27) := ⟨_, rfl⟩
  have hb0 := Below.step (Below.step (Below.alloc1 w (.cells #[.slice ao L.length cap0, .slice fo F.length fcap0] 27)) (Below.alloc1 _ (.cells #[.int .i64 kd, .int .i64 id, .string who, .string tt, .int .i64 num, .int .i64 many] 34))) (Below.alloc1 _ (.cells #[.slice none 0 0, .slice none 0 0] 27))
  have h1 := ((ownV_alloc w #[.slice ao L.length cap0, .slice fo F.length fcap0] 27).alloc (.cells #[.int .i64 kd, .int .i64 id, .string who, .string tt, .int .i64 num, .int .i64 many] 34)).alloc (.cells #[.slice none 0 0, .slice none 0 0] 27)
  have h2 := ownV_alloc (w.alloc (.cells #[.slice ao L.length cap0, .slice fo F.length fcap0] 27)) #[.int .i64 kd, .int .i64 id, .string who, .string tt, .int .i64 num, .int .i64 many] 34
  have h3 := ownV_alloc ((w.alloc (.cells #[.slice ao L.length cap0, .slice fo F.length fcap0] 27)).alloc (.cells #[.int .i64 kd, .int .i64 id, .string who, .string tt, .int .i64 num, .int .i64 many] 34)) #[.slice none 0 0, .slice none 0 0] 27
  replace h2 := h2.alloc (.cells #[.slice none 0 0, .slice none 0 0] 27)
  have hsz : V1.heap.size = w.heap.size + 3 := by rw [eV1]; simp only [World.size_alloc]
  simp only [World.size_alloc] at h2 h3
  rw [← eV1] at hb0 h1 h2 h3
  have HW : Hid (Below w.heap.size w V1) := hb0
  have HA : Hid (OwnV V1 w.heap.size [.slice ao L.length cap0, .slice fo F.length fcap0]) := h1
  have HO : Hid (OwnV V1 (w.heap.size + 1) [.int .i64 kd, .int .i64 id, .string who, .string tt, .int .i64 num, .int .i64 many]) := h2
  have HR : Hid (OwnV V1 (w.heap.size + 2) [.slice none 0 0, .slice none 0 0]) := h3
  clear h hb0 h1 h2 h3 hbd htx hto
  dsimp only at QC QB QF QH
  have hup := (book_parts hbk).2.1
  have h30 := (book_parts hbk).1
  dsimp only at hup h30
  have dk1 : (kd == 1) = false := by simp [hk1]
  have hfr := fr_len hbk
  have HFN : Hid (0 ≤ fnd L id → fnd L id = (plc L id : Int) ∧ plc L id < L.length) := fun h => by
    rw [fnd_asc (up_asc hup) id] at h ⊢
    by_cases c : plc L id < L.length ∧ bId L (plc L id) = id
    · rw [if_pos c] at h ⊢; exact ⟨rfl, c.1⟩
    · rw [if_neg c] at h; omega
  have ED3 : Hid (fnd L id < 0 → doB (L, F) (kd, id, who, tt, num, many) = ((L, F), 3)) := fun h => by
    rw [doB, if_neg (by rw [hbk, hop]; simp), if_neg hk1, if_pos (by show hasB L id = false; rw [has_fnd]; simpa using h)]
  have ED4 : Hid (0 ≤ fnd L id → F.contains id = true → doB (L, F) (kd, id, who, tt, num, many) = ((L, F), 4)) := fun h h2 => by
    rw [doB, if_neg (by rw [hbk, hop]; simp), if_neg hk1, if_neg (by show ¬ hasB L id = false; rw [has_fnd]; simpa using h), if_pos h2]
  have ED5 : Hid (0 ≤ fnd L id → F.contains id = false → passV (L.getD (plc L id) default) (kd, id, who, tt, num, many) = none → doB (L, F) (kd, id, who, tt, num, many) = ((L, F), 5)) := fun h h2 h3 => by
    rw [doB, if_neg (by rw [hbk, hop]; simp), if_neg hk1, if_neg (by show ¬ hasB L id = false; rw [has_fnd]; simpa using h), if_neg (by show ¬ F.contains id = true; rw [h2]; simp)]
    rw [show passV ((L, F).1.getD (plc (L, F).1 (kd, id, who, tt, num, many).2.1) default) (kd, id, who, tt, num, many) = none from h3]
  have ED6 : Hid (∀ y, 0 ≤ fnd L id → F.contains id = false → passV (L.getD (plc L id) default) (kd, id, who, tt, num, many) = some y → doB (L, F) (kd, id, who, tt, num, many) = ((L.set (plc L id) y, if kd = 4 then insL F (fplc F id) id else F), 0)) := fun y h h2 h3 => by
    rw [doB, if_neg (by rw [hbk, hop]; simp), if_neg hk1, if_neg (by show ¬ hasB L id = false; rw [has_fnd]; simpa using h), if_neg (by show ¬ F.contains id = true; rw [h2]; simp)]
    rw [show passV ((L, F).1.getD (plc (L, F).1 (kd, id, who, tt, num, many).2.1) default) (kd, id, who, tt, num, many) = some y from h3]
  have HUP := hide hup
  have HKOK := hide hop
  rw [hbk] at QB
  rw [hop] at QO
  generalize fnd L id = fa at *
  clear hbk hop hup
  have HK4 := hide hk4
  clear hk4
  unfold vBook at QC QB QF
  unfold vBillOp at QO
  unfold vBook vBillOp
  go_enter Try.func9, Try.ntmps9
  go_upto_region 1 with (fail)
  rw [← eV1]
  clear eV1
  have a0 := (unhide HA).cell (i := 0) rfl
  have a1 := (unhide HA).cell (i := 1) rfl
  go_wp2_with fail
  refine (unhide QC _ (unhide HW)).mono ?_
  rintro e wa hs
  obtain ⟨ba, m, cap, f, mf, fcap, E, rfl, eE, hS, hb⟩ := hs
  obtain ⟨V2, eV2⟩ : ∃ V, V = wa.alloc (.cells #[.slice ba m cap, .slice (some ⟨f, 0, none⟩) mf fcap] 27) := ⟨_, rfl⟩
  have A2 := Below.alloc1 wa (.cells #[.slice ba m cap, .slice (some ⟨f, 0, none⟩) mf fcap] 27)
  have HS : Hid (Sd w V2 (.slice ao L.length cap0) (.slice fo F.length fcap0) [.int .i64 kd, .int .i64 id, .string who, .string tt, .int .i64 num, .int .i64 many] wa.heap.size ba m cap f mf fcap E F) := by
    have hbs := hb.size
    have hS2 := (hS.mono (A' := sA w.heap.size wa.heap.size) (fun k hk h => by unfold sA; omega)).step A2
    have hx := ownV_alloc wa #[.slice ba m cap, .slice (some ⟨f, 0, none⟩) mf fcap] 27
    show Sd _ _ _ _ _ _ _ _ _ _ _ _ _ _
    rw [eV2]
    exact ⟨Below.step (Below.step (unhide HW) hb) A2, ((unhide HA).step hb).step A2, ((unhide HO).step hb).step A2, ((unhide HR).step hb).step A2, hx, hS2, by omega⟩
  have HE := hide eE
  have hlens := hS.lens
  have hwG : w.heap.size + 2 < wa.heap.size := by have := hb.size; omega
  clear eE hS hb A2 HW HA HO HR a0 a1 hsz
  unfold vBook
  go_upto_region 2 with (fail)
  rw [← eV2]
  clear eV2
  obtain ⟨G, eG⟩ : ∃ g, g = wa.heap.size := ⟨_, rfl⟩
  rw [← eG] at HS hwG ⊢
  clear eG
  have eEl : E.length = L.length := by rw [← unhide HE]; simp [bills]
  obtain ⟨hl1, hl2⟩ := hlens
  have hm : m = L.length := by omega
  have hmf : mf = F.length := hl2.symm
  subst hm hmf
  have HEL := hide eEl
  clear eEl hl1 hl2
  have a0 := (unhide HS).arg.cell (i := 0) rfl
  have a1 := (unhide HS).arg.cell (i := 1) rfl
  go_wp2_with fail
  refine (unhide QB _ (unhide HS).below).mono ?_
  rintro e w1 ⟨rfl, hb⟩
  replace HS := hide ((unhide HS).step hb)
  clear hb QB a0 a1
  have a0 := (unhide HS).arg.cell (i := 0) rfl
  have a1 := (unhide HS).arg.cell (i := 1) rfl
  have o0 := (unhide HS).op.cell (i := 0) rfl
  have o1 := (unhide HS).op.cell (i := 1) rfl
  have o2 := (unhide HS).op.cell (i := 2) rfl
  have o3 := (unhide HS).op.cell (i := 3) rfl
  have o4 := (unhide HS).op.cell (i := 4) rfl
  have o5 := (unhide HS).op.cell (i := 5) rfl
  have b0 := (unhide HS).box.cell (i := 0) rfl
  have b1 := (unhide HS).box.cell (i := 1) rfl
  have bf := (unhide HS).box.frozen
  have r0 := (unhide HS).res.cell (i := 0) rfl
  have r1 := (unhide HS).res.cell (i := 1) rfl
  have rf := (unhide HS).res.frozen
  go_wp2_with fail
  refine (unhide QO _).mono ?_
  rintro e w2 ⟨rfl, hb⟩
  replace HS := hide ((unhide HS).step hb)
  clear hb QO
  clear a0 a1 o0 o1 o2 o3 o4 o5 b0 b1 bf r0 r1 rf
  have a0 := (unhide HS).arg.cell (i := 0) rfl
  have a1 := (unhide HS).arg.cell (i := 1) rfl
  have o0 := (unhide HS).op.cell (i := 0) rfl
  have o1 := (unhide HS).op.cell (i := 1) rfl
  have o2 := (unhide HS).op.cell (i := 2) rfl
  have o3 := (unhide HS).op.cell (i := 3) rfl
  have o4 := (unhide HS).op.cell (i := 4) rfl
  have o5 := (unhide HS).op.cell (i := 5) rfl
  have b0 := (unhide HS).box.cell (i := 0) rfl
  have b1 := (unhide HS).box.cell (i := 1) rfl
  have bf := (unhide HS).box.frozen
  have r0 := (unhide HS).res.cell (i := 0) rfl
  have r1 := (unhide HS).res.cell (i := 1) rfl
  have rf := (unhide HS).res.frozen
  go_wp2_with fail
  refine (unhide QF _ (unhide HS).below).mono ?_
  rintro e w3 ⟨rfl, hb⟩
  replace HS := hide ((unhide HS).step hb)
  clear hb QF
  clear a0 a1 o0 o1 o2 o3 o4 o5 b0 b1 bf r0 r1 rf
  have a0 := (unhide HS).arg.cell (i := 0) rfl
  have a1 := (unhide HS).arg.cell (i := 1) rfl
  have o0 := (unhide HS).op.cell (i := 0) rfl
  have o1 := (unhide HS).op.cell (i := 1) rfl
  have o2 := (unhide HS).op.cell (i := 2) rfl
  have o3 := (unhide HS).op.cell (i := 3) rfl
  have o4 := (unhide HS).op.cell (i := 4) rfl
  have o5 := (unhide HS).op.cell (i := 5) rfl
  have b0 := (unhide HS).box.cell (i := 0) rfl
  have b1 := (unhide HS).box.cell (i := 1) rfl
  have bf := (unhide HS).box.frozen
  have r0 := (unhide HS).res.cell (i := 0) rfl
  have r1 := (unhide HS).res.cell (i := 1) rfl
  have rf := (unhide HS).res.frozen
  by_cases hat : fa < 0
  · have ED := hide (unhide ED3 hat)
    have da : decide (fa < 0) = true := by simpa using hat
    clear ED3 ED4 ED5 ED6 HFN QH
    have HF := hide (unhide HS).fin
    have hn1 : ¬ G = w.heap.size + 2 := by omega
    go_wp2
    have k0 := (unhide HF).1.cell (i := 0) rfl
    have k1 := (unhide HF).1.cell (i := 1) rfl
    refine bodyPost_ret (v := .tuple #[vBook (.slice ba L.length cap) (.slice (some ⟨f, 0, none⟩) F.length fcap), .int .i64 3]) (by simp [results, Try.results9, go_sem, vBook, k0, k1]) rfl ?_
    show BAns _ _ _ _
    rw [unhide ED]
    have hin := (unhide HF).2.1
    rw [unhide HE] at hin
    exact ⟨_, _, rfl, hin, (unhide HF).2.2⟩
  have da : decide (fa < 0) = false := by simpa using hat
  have hat0 : 0 ≤ fa := by omega
  obtain ⟨hfa, hkL⟩ := unhide HFN hat0
  replace ED4 := hide fun h => unhide ED4 hat0 h
  replace ED5 := hide fun h => unhide ED5 hat0 h
  replace ED6 := hide fun y h => unhide ED6 y hat0 h
  clear ED3 HFN
  obtain ⟨kk, ekk⟩ : ∃ k, k = plc L id := ⟨_, rfl⟩
  rw [← ekk] at hfa hkL ED5 ED6
  subst hfa
  clear ekk
  go_wp2_with fail
  refine (unhide QH _ (unhide HS).below).mono ?_
  rintro e w4 ⟨rfl, h9⟩
  have h8 := h9.symm
  subst h8
  clear h9 QH
  cases hcn : F.contains id with
  | true =>
    have ED := hide (unhide ED4 hcn)
    clear ED4 ED5 ED6
    have HF := hide (unhide HS).fin
    have hn1 : ¬ G = w.heap.size + 2 := by omega
    go_wp2
    have k0 := (unhide HF).1.cell (i := 0) rfl
    have k1 := (unhide HF).1.cell (i := 1) rfl
    refine bodyPost_ret (v := .tuple #[vBook (.slice ba L.length cap) (.slice (some ⟨f, 0, none⟩) F.length fcap), .int .i64 4]) (by simp [results, Try.results9, go_sem, vBook, k0, k1]) rfl ?_
    show BAns _ _ _ _
    rw [unhide ED]
    have hin := (unhide HF).2.1
    rw [unhide HE] at hin
    exact ⟨_, _, rfl, hin, (unhide HF).2.2⟩
  | false =>
  replace ED5 := hide (unhide ED5 hcn)
  replace ED6 := hide fun y => unhide ED6 y hcn
  clear ED4
  have hkI : (kk : Int) < L.length := by omega
  have hkE : kk < E.length := by rw [unhide HEL]; exact hkL
  have hxL : L.getD kk default = (E.getD kk default).1 := by rw [← unhide HE]; simp [bills, List.getD, hkE]
  have hbl := bill_parts (up_bill (unhide HUP) hkL)
  rw [hxL] at hbl ED5 ED6
  obtain ⟨g, hg, hP⟩ := (unhide HS).bk.pbk (fun e => by rw [e] at hkE; simp at hkE)
  subst hg
  clear hP
  have hhld := (unhide HS).bk.hld (E.getD kk default) (by rw [show E.getD kk default = E[kk] by simp [List.getD, hkE]]; exact List.getElem_mem _)
  have hrow := (unhide HS).bk.row.ownG (by omega)
  obtain ⟨⟨⟨xi, sh, od, mn, H⟩, hb, hc⟩, ex⟩ : ∃ z : EBl, E.getD kk default = z := ⟨_, rfl⟩
  rw [ex] at hhld hbl ED5 ED6
  dsimp only at hhld hbl ED5 ED6
  have HXC : Hid (∀ V : World, OwnV V g (recCells 5 eBl E) → V.cell? ⟨g, kk * 5, none⟩ = some (.int .i64 xi) ∧ V.cell? ⟨g, kk * 5 + 1, none⟩ = some (.string sh) ∧ V.cell? ⟨g, kk * 5 + 2, none⟩ = some (.string od) ∧ V.cell? ⟨g, kk * 5 + 3, none⟩ = some (.int .i64 mn) ∧ V.cell? ⟨g, kk * 5 + 4, none⟩ = some (.slice (some ⟨hb, 0, none⟩) H.length hc)) := fun V hV => by
    have q := fun j hj => hV.cell (recCells_get (n := 5) (enc := eBl) (L := E) (i := kk) (j := j) hkE hj)
    rw [ex] at q
    exact ⟨q 0 (by omega), q 1 (by omega), q 2 (by omega), q 3 (by omega), q 4 (by omega)⟩
  have EX := hide ex
  obtain ⟨hOh, hAh, hlh, hmh⟩ := hhld
  have HOH := hide hOh
  have hbX := hOh.lt
  obtain ⟨hcc, hcm0⟩ := hrow.2
  have hcm1 := hcm0.1
  have hgl := hcm0.2.1
  have hA2 := hAh
  unfold sA at hA2
  have hgA := ((unhide HS).bk.top g rfl).1
  unfold sA at hgA
  have hbgn : hb ≠ g := by have h9 := ((unhide HS).bk.top g rfl).2.2.2 (E.getD kk default) (by rw [show E.getD kk default = E[kk] by simp [List.getD, hkE]]; exact List.getElem_mem _); rw [ex] at h9; exact h9
  have hHl : H.length ≤ 1048576 := by have := hbl.2.2.2.2.1; have := hbl.2.2.2.1; omega
  have QD := hide fun V (hV : OwnV V hb (strs H)) => specDo_any (xi, sh, od, mn, H) hb hc kd id who tt num many V hV hlh hmh hHl hbl.2.2.2.2.1 (unhide HKOK) hk1
  dsimp only at QD
  have ex0 := (unhide HXC _ hrow.1).1
  have ex1 := (unhide HXC _ hrow.1).2.1
  have ex2 := (unhide HXC _ hrow.1).2.2.1
  have ex3 := (unhide HXC _ hrow.1).2.2.2.1
  have ex4 := (unhide HXC _ hrow.1).2.2.2.2
  unfold maxLen at hcm1
  clear ex hxL hbl hrow hOh hAh hcm0 HUP
  cases hpv : passV (xi, sh, od, mn, H) (kd, id, who, tt, num, many) with
  | none =>
    have ED := hide (unhide ED5 hpv)
    rw [hpv] at QD
    clear ED5 ED6
    unfold DoS vBill at QD
    unfold vBillOp at QD
    dsimp only at QD
    generalize w3 = X at *
    go_upto_region 19 with (fail)
    have hXn1 : ¬ X.heap.size = G := by have := (unhide HS).box.lt; omega
    have hXn2 : ¬ G = X.heap.size := fun e => hXn1 e.symm
    have hXn3 : ¬ X.heap.size = g := by omega
    have hXn4 : ¬ g = X.heap.size := by omega
    have hXn5 : ¬ X.heap.size = w.heap.size + 1 := by have := (unhide HS).op.lt; omega
    have hXn6 : ¬ w.heap.size + 1 = X.heap.size := fun e => hXn5 e.symm
    go_cut [11, 12] (fun s11 s12 wx => ∃ gx : Nat, s11 = .pointer (some ⟨gx, 0, none⟩) ∧ s12 = .bool false ∧ Hid (Below X.heap.size X wx))
    case first =>
      go_region_held3 (fun w' => w'.cell? ⟨G, 0, none⟩ = some (.slice (some ⟨g, 0, none⟩) L.length cap) ∧ w'.cell? ⟨g, kk * 5, none⟩ = some (.int .i64 xi) ∧ w'.cell? ⟨g, kk * 5 + 1, none⟩ = some (.string sh) ∧ w'.cell? ⟨g, kk * 5 + 2, none⟩ = some (.string od) ∧ w'.cell? ⟨g, kk * 5 + 3, none⟩ = some (.int .i64 mn) ∧ w'.cell? ⟨g, kk * 5 + 4, none⟩ = some (.slice (some ⟨hb, 0, none⟩) H.length hc) ∧ w'.cell? ⟨w.heap.size + 1, 0, none⟩ = some (.int .i64 kd) ∧ w'.cell? ⟨w.heap.size + 1, 1, none⟩ = some (.int .i64 id) ∧ w'.cell? ⟨w.heap.size + 1, 2, none⟩ = some (.string who) ∧ w'.cell? ⟨w.heap.size + 1, 3, none⟩ = some (.string tt) ∧ w'.cell? ⟨w.heap.size + 1, 4, none⟩ = some (.int .i64 num) ∧ w'.cell? ⟨w.heap.size + 1, 5, none⟩ = some (.int .i64 many)) (go_keep) (first | (go_at_call 42; refine (unhide QD _ (by first | exact unhide HOH | exact (unhide HOH).step (Below.refl _ _).drew | exact (unhide HOH).step (Below.alloc1 _ _) | exact ((unhide HOH).step (Below.alloc1 _ _)).step (Below.refl _ _).drew)).mono ?_; rintro e wb hds; obtain ⟨rfl, hbn⟩ := hds; (first | (have HBX : Hid (Below X.heap.size X wb) := hbn) | (have HBX : Hid (Below X.heap.size X wb) := below_undrewA hbn) | (have HBX : Hid (Below X.heap.size X wb) := Below.step (Below.alloc1 _ _) hbn) | (have HBX : Hid (Below X.heap.size X wb) := Below.step (Below.alloc1 _ _) (below_undrewA hbn))); (first | (have HKX : Hid (Kept (fun b => b = hb) X wb) := (kept_of_below hbn)) | (have HKX : Hid (Kept (fun b => b = hb) X wb) := (kept_of_below (Below.refl _ _).drew).trans (kept_of_below hbn)) | (have HKX : Hid (Kept (fun b => b = hb) X wb) := (kept_of_below (Below.alloc1 _ _)).trans ((kept_of_below hbn).mono fun _ _ h => h)) | (have HKX : Hid (Kept (fun b => b = hb) X wb) := (kept_of_below (Below.alloc1 _ _).drew).trans ((kept_of_below hbn).mono fun _ _ h => h))); (try (have HNW := hide (OwnV.step (ownV_alloc X _ _) hbn))); (try (have HNW := hide (OwnV.step (OwnV.step (ownV_alloc X _ _) (Below.refl _ _).drew) hbn))); (try (have n0 := (unhide HNW).cell (i := 0) rfl; have n1 := (unhide HNW).cell (i := 1) rfl; have n2 := (unhide HNW).cell (i := 2) rfl; have n3 := (unhide HNW).cell (i := 3) rfl; have n4 := (unhide HNW).cell (i := 4) rfl; have nf := (unhide HNW).frozen)); have HT := hide ((unhide HS).turn (k := kk) (X1 := wb) hkE (by rw [unhide EX]; exact unhide HKX)); have t1 := (unhide HT).2.2.2.2.1.cell (i := 0) rfl; have to0 := (unhide HT).2.2.1.cell (i := 0) rfl; have to1 := (unhide HT).2.2.1.cell (i := 1) rfl; have to2 := (unhide HT).2.2.1.cell (i := 2) rfl; have to3 := (unhide HT).2.2.1.cell (i := 3) rfl; have to4 := (unhide HT).2.2.1.cell (i := 4) rfl; have to5 := (unhide HT).2.2.1.cell (i := 5) rfl; have tx0 := (unhide HXC _ (unhide HT).2.2.2.2.2.1).1; have tx1 := (unhide HXC _ (unhide HT).2.2.2.2.2.1).2.1; have tx2 := (unhide HXC _ (unhide HT).2.2.2.2.2.1).2.2.1; have tx3 := (unhide HXC _ (unhide HT).2.2.2.2.2.1).2.2.2.1; have tx4 := (unhide HXC _ (unhide HT).2.2.2.2.2.1).2.2.2.2; have hbs := (unhide HKX).size; clear hbn))
      all_goals
        go_wp2_with fail
        go_meet
        first
          | exact ⟨X.heap.size, rfl, rfl, hide (kept_below5 (unhide HBX))⟩
          | exact ⟨wb.heap.size, rfl, rfl, hide (Below.step (unhide HBX) (Below.alloc1 _ _))⟩
    case rest =>
      obtain ⟨gx, rfl, rfl, HBY⟩ := hcut
      generalize wc = Y at *
      replace HS := hide ((unhide HS).step (unhide HBY))
      clear HBY ex0 ex1 ex2 ex3 ex4 a0 a1 o0 o1 o2 o3 o4 o5 b0 b1 bf r0 r1 rf QD
      have a0 := (unhide HS).arg.cell (i := 0) rfl
      have a1 := (unhide HS).arg.cell (i := 1) rfl
      go_wp2_with fail
      refine (unhide QC _ (unhide HS).below).mono ?_
      rintro e wz hs
      obtain ⟨ba3, m3, cap3, f3, mf3, fcap3, E3, rfl, eE3, hS3, hb3⟩ := hs
      have HSZ := hide ((unhide HS).step hb3)
      have hrl := (unhide HS).res.lt
      have HFB : Hid (∀ W2, Kept (fun k => k < w.heap.size) ((wz.setCell ⟨w.heap.size + 2, 0, none⟩ (.slice ba3 m3 cap3)).setCell ⟨w.heap.size + 2, 1, none⟩ (.slice (some ⟨f3, 0, none⟩) mf3 fcap3)) W2 → BkIn W2 (.slice ba3 m3 cap3) (.slice (some ⟨f3, 0, none⟩) mf3 fcap3) (bills E3, F)) := fun W2 hk2 => (((hS3.far (b := w.heap.size + 2) (i := 0) (u := .slice ba3 m3 cap3) (by omega)).far (b := w.heap.size + 2) (i := 1) (u := .slice (some ⟨f3, 0, none⟩) mf3 fcap3) (by omega)).kept hk2 (fun k _ hA hT => by have hT : k < w.heap.size := hT; have hA : Y.heap.size ≤ k := hA; omega)).inn
      rw [eE3] at HFB
      have HRS := hide (((unhide HSZ).res.set 0 (.slice ba3 m3 cap3) (by simp)).set 1 (.slice (some ⟨f3, 0, none⟩) mf3 fcap3) (by simp))
      have HWW := hide (((unhide HSZ).below.setCell (p := ⟨w.heap.size + 2, 0, none⟩) (by show w.heap.size ≤ w.heap.size + 2; omega) (.slice ba3 m3 cap3)).setCell (p := ⟨w.heap.size + 2, 1, none⟩) (by show w.heap.size ≤ w.heap.size + 2; omega) (.slice (some ⟨f3, 0, none⟩) mf3 fcap3))
      have r0 := (unhide HSZ).res.cell (i := 0) rfl
      have r1 := (unhide HSZ).res.cell (i := 1) rfl
      have rf := (unhide HSZ).res.frozen
      clear eE3 hS3 hb3 a0 a1 HS HSZ QC
      unfold vBook
      go_wp2
      have k0 := (unhide HRS).cell (i := 0) rfl
      have k1 := (unhide HRS).cell (i := 1) rfl
      refine bodyPost_ret (v := .tuple #[vBook (.slice ba3 m3 cap3) (.slice (some ⟨f3, 0, none⟩) mf3 fcap3), .int .i64 5]) (by simp [results, Try.results9, go_sem, vBook, k0, k1]) rfl ?_
      show BAns _ _ _ _
      rw [unhide ED]
      exact ⟨_, _, rfl, unhide HFB, unhide HWW⟩
  | some y =>
    obtain ⟨yi, ys, yo, ym, YH⟩ := y
    have ED0 := hide (unhide ED6 _ hpv)
    rw [hpv] at QD
    clear ED5 ED6 QC
    unfold DoS vBill at QD
    unfold vBillOp at QD
    dsimp only at QD
    generalize w3 = X at *
    go_upto_region 19 with (fail)
    have hXn1 : ¬ X.heap.size = G := by have := (unhide HS).box.lt; omega
    have hXn2 : ¬ G = X.heap.size := fun e => hXn1 e.symm
    have hXn3 : ¬ X.heap.size = g := by omega
    have hXn4 : ¬ g = X.heap.size := by omega
    have hXn5 : ¬ X.heap.size = w.heap.size + 1 := by have := (unhide HS).op.lt; omega
    have hXn6 : ¬ w.heap.size + 1 = X.heap.size := fun e => hXn5 e.symm
    go_cut [11, 12] (fun s11 s12 wx => ∃ gx hb2 hc2 : Nat, s11 = .pointer (some ⟨gx, 0, none⟩) ∧ s12 = .bool true ∧ X.heap.size ≤ gx ∧ gx ≠ hb2 ∧ YH.length ≤ hc2 ∧ hc2 ≤ maxLen ∧ Hid (hb2 = hb ∨ X.heap.size ≤ hb2) ∧ Hid (Kept (fun b => b = hb) X wx) ∧ Hid (OwnV wx gx [.int .i64 yi, .string ys, .string yo, .int .i64 ym, .slice (some ⟨hb2, 0, none⟩) YH.length hc2]) ∧ Hid (OwnV wx hb2 (strs YH)))
    case first =>
      go_region_held3 (fun w' => w'.cell? ⟨G, 0, none⟩ = some (.slice (some ⟨g, 0, none⟩) L.length cap) ∧ w'.cell? ⟨g, kk * 5, none⟩ = some (.int .i64 xi) ∧ w'.cell? ⟨g, kk * 5 + 1, none⟩ = some (.string sh) ∧ w'.cell? ⟨g, kk * 5 + 2, none⟩ = some (.string od) ∧ w'.cell? ⟨g, kk * 5 + 3, none⟩ = some (.int .i64 mn) ∧ w'.cell? ⟨g, kk * 5 + 4, none⟩ = some (.slice (some ⟨hb, 0, none⟩) H.length hc) ∧ w'.cell? ⟨w.heap.size + 1, 0, none⟩ = some (.int .i64 kd) ∧ w'.cell? ⟨w.heap.size + 1, 1, none⟩ = some (.int .i64 id) ∧ w'.cell? ⟨w.heap.size + 1, 2, none⟩ = some (.string who) ∧ w'.cell? ⟨w.heap.size + 1, 3, none⟩ = some (.string tt) ∧ w'.cell? ⟨w.heap.size + 1, 4, none⟩ = some (.int .i64 num) ∧ w'.cell? ⟨w.heap.size + 1, 5, none⟩ = some (.int .i64 many)) (go_keep) (first | (go_at_call 42; refine (unhide QD _ (by first | exact unhide HOH | exact (unhide HOH).step (Below.refl _ _).drew | exact (unhide HOH).step (Below.alloc1 _ _) | exact ((unhide HOH).step (Below.alloc1 _ _)).step (Below.refl _ _).drew)).mono ?_; rintro e wb hds; obtain ⟨hb2, hc2, rfl, hO2, hl2, hm2, hor2, hk2⟩ := hds; (first | (have HKX : Hid (Kept (fun b => b = hb) X wb) := hk2) | (have HKX : Hid (Kept (fun b => b = hb) X wb) := (kept_of_below (Below.refl _ _).drew).trans hk2) | (have HKX : Hid (Kept (fun b => b = hb) X wb) := (kept_of_below (Below.alloc1 _ _)).trans (hk2.mono fun _ _ h => h)) | (have HKX : Hid (Kept (fun b => b = hb) X wb) := (kept_of_below (Below.alloc1 _ _).drew).trans (hk2.mono fun _ _ h => h))); (first | (have HOR : Hid (hb2 = hb ∨ X.heap.size ≤ hb2) := hor2) | (have HOR : Hid (hb2 = hb ∨ X.heap.size ≤ hb2) := hor2.imp (fun h => h) (fun h => Nat.le_trans (Below.alloc1 _ _).size h))); have HO2 := hide hO2; have hO2l := hO2.lt; (try (have HNW := hide (OwnV.kept (ownV_alloc X _ _) hk2 (fun e => absurd e (Nat.ne_of_gt hbX))))); (try (have HNW := hide (OwnV.kept (OwnV.step (ownV_alloc X _ _) (Below.refl _ _).drew) hk2 (fun e => absurd e (Nat.ne_of_gt hbX))))); (try (have hnew : hb2 ≠ X.heap.size := (hor2.elim (fun e => by omega) (fun e => by have := (OwnV.lt (ownV_alloc X (#[.int .i64 0, .string ⟨#[]⟩, .string ⟨#[]⟩, .int .i64 0, .slice none 0 0]) 40)); first | omega | (have e2 : X.heap.size + 1 ≤ hb2 := (by first | exact Nat.le_trans (Nat.le_of_eq (World.size_alloc _ _).symm) e | omega); omega))))); (try (have n0 := (unhide HNW).cell (i := 0) rfl; have n1 := (unhide HNW).cell (i := 1) rfl; have n2 := (unhide HNW).cell (i := 2) rfl; have n3 := (unhide HNW).cell (i := 3) rfl; have n4 := (unhide HNW).cell (i := 4) rfl; have nf := (unhide HNW).frozen)); have HT := hide ((unhide HS).turn (k := kk) (X1 := wb) hkE (by rw [unhide EX]; exact unhide HKX)); have t1 := (unhide HT).2.2.2.2.1.cell (i := 0) rfl; have to0 := (unhide HT).2.2.1.cell (i := 0) rfl; have to1 := (unhide HT).2.2.1.cell (i := 1) rfl; have to2 := (unhide HT).2.2.1.cell (i := 2) rfl; have to3 := (unhide HT).2.2.1.cell (i := 3) rfl; have to4 := (unhide HT).2.2.1.cell (i := 4) rfl; have to5 := (unhide HT).2.2.1.cell (i := 5) rfl; have tx0 := (unhide HXC _ (unhide HT).2.2.2.2.2.1).1; have tx1 := (unhide HXC _ (unhide HT).2.2.2.2.2.1).2.1; have tx2 := (unhide HXC _ (unhide HT).2.2.2.2.2.1).2.2.1; have tx3 := (unhide HXC _ (unhide HT).2.2.2.2.2.1).2.2.2.1; have tx4 := (unhide HXC _ (unhide HT).2.2.2.2.2.1).2.2.2.2; have hbs := (unhide HKX).size; clear hO2 hor2 hk2))
      all_goals
        go_wp2_with fail
        go_meet
        first
          | exact ⟨X.heap.size, hb2, hc2, rfl, rfl, Nat.le_refl _, hnew.symm, hl2, hm2, HOR, hide (kept_new5 (unhide HKX)), hide ((((((unhide HNW).set 0 (.int .i64 yi) (by simp)).set 1 (.string ys) (by simp)).set 2 (.string yo) (by simp)).set 3 (.int .i64 ym) (by simp)).set 4 (.slice (some ⟨hb2, 0, none⟩) YH.length hc2) (by simp)), hide (far5 (unhide HO2) hnew (.int .i64 yi) (.string ys) (.string yo) (.int .i64 ym) (.slice (some ⟨hb2, 0, none⟩) YH.length hc2))⟩
          | exact ⟨wb.heap.size, hb2, hc2, rfl, rfl, hbs, by omega, hl2, hm2, HOR, hide ((unhide HKX).trans (kept_of_below (Below.alloc1 _ _))), hide (ownV_alloc wb #[.int .i64 yi, .string ys, .string yo, .int .i64 ym, .slice (some ⟨hb2, 0, none⟩) YH.length hc2] 40), hide ((unhide HO2).step (Below.alloc1 _ _))⟩
    case rest =>
      obtain ⟨gx, hb2, hc2, rfl, rfl, p1, p2, p3, p4, HOR, HKX, HX, HO2⟩ := hcut
      generalize wc = Y at *
      clear ex0 ex1 ex2 ex3 ex4 a0 a1 o0 o1 o2 o3 o4 o5 b0 b1 bf r0 r1 rf QD hXn1 hXn2 hXn3 hXn4 hXn5 hXn6
      have HT := hide ((unhide HS).turn (k := kk) (X1 := Y) hkE (by rw [unhide EX]; exact unhide HKX))
      have b0 := (unhide HT).2.2.2.2.1.cell (i := 0) rfl
      have x0 := (unhide HX).cell (i := 0) rfl
      have x1 := (unhide HX).cell (i := 1) rfl
      have x2 := (unhide HX).cell (i := 2) rfl
      have x3 := (unhide HX).cell (i := 3) rfl
      have x4 := (unhide HX).cell (i := 4) rfl
      have g0 := (unhide HXC _ (unhide HT).2.2.2.2.2.1).1
      have g1 := (unhide HXC _ (unhide HT).2.2.2.2.2.1).2.1
      have g2 := (unhide HXC _ (unhide HT).2.2.2.2.2.1).2.2.1
      have g3 := (unhide HXC _ (unhide HT).2.2.2.2.2.1).2.2.2.1
      have g4 := (unhide HXC _ (unhide HT).2.2.2.2.2.1).2.2.2.2
      have gf := (unhide HT).2.2.2.2.2.1.frozen
      have HS9 := hide ((unhide HS).put hkE ((yi, ys, yo, ym, YH), hb2, hc2) (by rw [unhide EX]; exact unhide HKX) (unhide HO2) p3 p4 (by rw [unhide EX]; exact unhide HOR))
      have n1 : ¬ gx = g := by omega
      have n2 : ¬ g = gx := by omega
      have hne9 : ¬ g = G := hgA.2
      have hne8 : ¬ G = g := fun e => hgA.2 e.symm
      have dk4 : (kd == 4) = true := by simp [unhide HK4]
      go_upto_region 23 with (fail)
      obtain ⟨V9, eV9⟩ : ∃ V, V = set5 Y g kk ((yi, ys, yo, ym, YH), hb2, hc2) := ⟨_, rfl⟩
      rw [← eV9] at HS9
      have eV8 : (((((Y.setCell ⟨g, kk * 5, none⟩ (.int .i64 yi)).setCell ⟨g, kk * 5 + 1, none⟩ (.string ys)).setCell ⟨g, kk * 5 + 2, none⟩ (.string yo)).setCell ⟨g, kk * 5 + 3, none⟩ (.int .i64 ym)).setCell ⟨g, kk * 5 + 4, none⟩ (.slice (some ⟨hb2, 0, none⟩) YH.length hc2)) = V9 := eV9.symm
      rw [eV8]
      have HE9 : Hid (bills (E.set kk ((yi, ys, yo, ym, YH), hb2, hc2)) = L.set kk (yi, ys, yo, ym, YH)) := by show _ = _; rw [bills, List.map_set]; exact congrArg (fun z => List.set z kk (yi, ys, yo, ym, YH)) (unhide HE)
      clear eV8 eV9 b0 x0 x1 x2 x3 x4 g0 g1 g2 g3 g4 gf HT HX HO2 HKX HOR HS HE HXC HOH
      generalize E.set kk ((yi, ys, yo, ym, YH), hb2, hc2) = E9 at *
      have HS := HS9
      have HE := HE9
      clear HS9 HE9
      have HFP : Hid (∀ k, k ≤ F.length → (∀ t, t < k → F.getD t 0 < id) → (k < F.length → id ≤ F.getD k 0) → fplc F id = k) := fun k h1 h2 h3 => fplc_mk h1 h2 h3
      have hfo := (unhide HS).bk.frow.ownG (by omega)
      have hfc := hfo.2.1
      have hfcm := hfo.2.2.1
      unfold maxLen at hfcm
      clear hfo
      have a0 := (unhide HS).arg.cell (i := 0) rfl
      have a1 := (unhide HS).arg.cell (i := 1) rfl
      have o0 := (unhide HS).op.cell (i := 0) rfl
      have o1 := (unhide HS).op.cell (i := 1) rfl
      have o2 := (unhide HS).op.cell (i := 2) rfl
      have o3 := (unhide HS).op.cell (i := 3) rfl
      have o4 := (unhide HS).op.cell (i := 4) rfl
      have o5 := (unhide HS).op.cell (i := 5) rfl
      have b0 := (unhide HS).box.cell (i := 0) rfl
      have b1 := (unhide HS).box.cell (i := 1) rfl
      have bf := (unhide HS).box.frozen
      have r0 := (unhide HS).res.cell (i := 0) rfl
      have r1 := (unhide HS).res.cell (i := 1) rfl
      have rf := (unhide HS).res.frozen
      go_upto_block 2 with (fail)
      clear a0 a1 o0 o1 o2 o3 o4 o5 b0 b1 bf r0 r1 rf
      go_cut [13] (fun s13 wx => ∃ k : Nat, s13 = .int .i64 (k : Int) ∧ k ≤ F.length ∧ Hid (Sd w wx (.slice ao L.length cap0) (.slice fo F.length fcap0) [.int .i64 kd, .int .i64 id, .string who, .string tt, .int .i64 num, .int .i64 many] G (some ⟨g, 0, none⟩) L.length cap f F.length fcap E9 F) ∧ Hid (fplc F id = k))
      case first =>
        go_wp2_with fail
        go_loopg [13] F.length (fun gg iv wr => ∃ k : Nat, k ≤ F.length ∧ gg = F.length - k ∧ iv = .int .i64 k ∧ Hid (Sd w wr (.slice ao L.length cap0) (.slice fo F.length fcap0) [.int .i64 kd, .int .i64 id, .string who, .string tt, .int .i64 num, .int .i64 many] G (some ⟨g, 0, none⟩) L.length cap f F.length fcap E9 F) ∧ Hid (∀ t, t < k → F.getD t 0 < id))
        case atStart => exact ⟨0, Nat.zero_le _, rfl, rfl, HS, fun t ht => by omega⟩
        case round =>
          clear HS
          obtain ⟨k, hk, rfl, rfl, HS, HT⟩ := hrel
          have a0 := (unhide HS).arg.cell (i := 0) rfl
          have a1 := (unhide HS).arg.cell (i := 1) rfl
          have o0 := (unhide HS).op.cell (i := 0) rfl
          have o1 := (unhide HS).op.cell (i := 1) rfl
          have o2 := (unhide HS).op.cell (i := 2) rfl
          have o3 := (unhide HS).op.cell (i := 3) rfl
          have o4 := (unhide HS).op.cell (i := 4) rfl
          have o5 := (unhide HS).op.cell (i := 5) rfl
          have b0 := (unhide HS).box.cell (i := 0) rfl
          have b1 := (unhide HS).box.cell (i := 1) rfl
          have bf := (unhide HS).box.frozen
          have r0 := (unhide HS).res.cell (i := 0) rfl
          have r1 := (unhide HS).res.cell (i := 1) rfl
          have rf := (unhide HS).res.frozen
          by_cases hkn : k < F.length
          · have hki : (k : Int) < F.length := by omega
            have hcl : wr.cell? ⟨f, k, none⟩ = some (.int .i64 (F.getD k 0)) := by
              have h1 := ((unhide HS).bk.frow.ownG (by omega)).1.cell (recCells_get (n := 1) (enc := eI) (L := F) (i := k) (j := 0) hkn (by omega))
              rw [Nat.mul_one] at h1
              exact h1
            by_cases hlt : F.getD k 0 < id
            · have HT' : Hid (∀ t, t < k + 1 → F.getD t 0 < id) := fun t ht => by
                by_cases e : t = k
                · rw [e]; exact hlt
                · exact unhide HT t (by omega)
              generalize F.getD k 0 = y at *
              have dl : decide (y < id) = true := by simpa using hlt
              clear HT
              go_upto_region 25 with (fail)
              refine wp_region_quiet_lit (by kernel_rfl) (by kernel_rfl) ?_
              repeat (go_big_quiet_step (fail))
              refine wpQuiet_nil ?_
              intro _ hw'
              obtain ⟨nq, hw''⟩ := hw'
              subst hw''
              replace HS := hide ((unhide HS).drewN nq)
              clear a0 a1 o0 o1 o2 o3 o4 o5 b0 b1 bf r0 r1 rf
              have a0 := (unhide HS).arg.cell (i := 0) rfl
              have a1 := (unhide HS).arg.cell (i := 1) rfl
              have o0 := (unhide HS).op.cell (i := 0) rfl
              have o1 := (unhide HS).op.cell (i := 1) rfl
              have o2 := (unhide HS).op.cell (i := 2) rfl
              have o3 := (unhide HS).op.cell (i := 3) rfl
              have o4 := (unhide HS).op.cell (i := 4) rfl
              have o5 := (unhide HS).op.cell (i := 5) rfl
              have b0 := (unhide HS).box.cell (i := 0) rfl
              have b1 := (unhide HS).box.cell (i := 1) rfl
              have bf := (unhide HS).box.frozen
              have r0 := (unhide HS).res.cell (i := 0) rfl
              have r1 := (unhide HS).res.cell (i := 1) rfl
              have rf := (unhide HS).res.frozen
              go_wp2
              go_roundg (F.length - (k + 1))
              case measure => omega
              case rel => exact ⟨k + 1, by omega, rfl, by go_num, HS, HT'⟩
            · have EP := hide (unhide HFP k hk (unhide HT) (fun _ => by omega))
              generalize F.getD k 0 = y at hcl hlt
              have dl : decide (y < id) = false := by simpa using hlt
              clear HT
              go_upto_region 25 with (fail)
              refine wp_region_quiet_lit (by kernel_rfl) (by kernel_rfl) ?_
              repeat (go_big_quiet_step (fail))
              refine wpQuiet_nil ?_
              intro _ hw'
              obtain ⟨nq, hw''⟩ := hw'
              subst hw''
              replace HS := hide ((unhide HS).drewN nq)
              clear a0 a1 o0 o1 o2 o3 o4 o5 b0 b1 bf r0 r1 rf
              have a0 := (unhide HS).arg.cell (i := 0) rfl
              have a1 := (unhide HS).arg.cell (i := 1) rfl
              have o0 := (unhide HS).op.cell (i := 0) rfl
              have o1 := (unhide HS).op.cell (i := 1) rfl
              have o2 := (unhide HS).op.cell (i := 2) rfl
              have o3 := (unhide HS).op.cell (i := 3) rfl
              have o4 := (unhide HS).op.cell (i := 4) rfl
              have o5 := (unhide HS).op.cell (i := 5) rfl
              have b0 := (unhide HS).box.cell (i := 0) rfl
              have b1 := (unhide HS).box.cell (i := 1) rfl
              have bf := (unhide HS).box.frozen
              have r0 := (unhide HS).res.cell (i := 0) rfl
              have r1 := (unhide HS).res.cell (i := 1) rfl
              have rf := (unhide HS).res.frozen
              go_wp2_with fail
              go_meet
              exact ⟨k, rfl, hk, HS, EP⟩
          · have hki : ¬ (k : Int) < F.length := by omega
            have EP := hide (unhide HFP k hk (unhide HT) (fun h => absurd h hkn))
            go_upto_region 25 with (fail)
            refine wp_region_quiet_lit (by kernel_rfl) (by kernel_rfl) ?_
            repeat (go_big_quiet_step (fail))
            refine wpQuiet_nil ?_
            intro _ hw'
            obtain ⟨nq, hw''⟩ := hw'
            subst hw''
            replace HS := hide ((unhide HS).drewN nq)
            clear a0 a1 o0 o1 o2 o3 o4 o5 b0 b1 bf r0 r1 rf
            have a0 := (unhide HS).arg.cell (i := 0) rfl
            have a1 := (unhide HS).arg.cell (i := 1) rfl
            have o0 := (unhide HS).op.cell (i := 0) rfl
            have o1 := (unhide HS).op.cell (i := 1) rfl
            have o2 := (unhide HS).op.cell (i := 2) rfl
            have o3 := (unhide HS).op.cell (i := 3) rfl
            have o4 := (unhide HS).op.cell (i := 4) rfl
            have o5 := (unhide HS).op.cell (i := 5) rfl
            have b0 := (unhide HS).box.cell (i := 0) rfl
            have b1 := (unhide HS).box.cell (i := 1) rfl
            have bf := (unhide HS).box.frozen
            have r0 := (unhide HS).res.cell (i := 0) rfl
            have r1 := (unhide HS).res.cell (i := 1) rfl
            have rf := (unhide HS).res.frozen
            go_wp2_with fail
            go_meet
            exact ⟨k, rfl, hk, HS, EP⟩
      case rest =>
        obtain ⟨k, rfl, hk, HS, EP⟩ := hcut
        generalize wc = Y2 at *
        clear HFP
        have o1 := (unhide HS).op.cell (i := 1) rfl
        have HRB : Hid (RowB 3 1 eI 0 (Y2.alloc (.cells #[.int .i64 id] 3)) (some ⟨Y2.heap.size, 0, none⟩) 1 1 [id]) := by
          have hb : Blk (Y2.alloc (.cells #[.int .i64 id] 3)) Y2.heap.size 3 (recCells 1 eI [id]) := by
            unfold Blk
            rw [recCells_one, show ((List.range 1).map (eI id)).toArray = #[.int .i64 id] from by simp [List.range_succ, eI]]
            exact Go.Deep.blk_alloc_new _ _
          exact hb.row (L := [id]) (by simp)
        have HRE := hide ((unhide HS).bk.frow.below (Below.alloc1 Y2 (.cells #[.int .i64 id] 3))).recs (by omega)
        have hkk : (k : Int) ≤ F.length := by omega
        obtain ⟨da, eda⟩ : ∃ da : Option Addr, da = (if fcap = k then (some ⟨f, 0, none⟩ : Option Addr) else (some ⟨f, 0, none⟩ : Option Addr).map (·.add (k * 1))) := ⟨_, rfl⟩
        have hsl : ∀ V, (Instr.slice 25 (.slice (some ⟨f, 0, none⟩) F.length fcap) (some (.int .i64 (k : Int))) none none).run Try.prog V = .ok (.slice da (F.length - k) (fcap - k)) V := fun V => by
          rw [eda]
          simp [go_sem, hkk]
        have hsl2 : ∀ V, (Instr.sliceAt 25 (.slice (some ⟨f, 0, none⟩) F.length fcap) (some (.int .i64 (k : Int))) none none).run Try.prog V = .ok (.slice da (F.length - k) (fcap - k)) V := fun V => by
          rw [eda]
          simp [go_sem, hkk]
        have HRD := hide (recs_drop (k := k) (unhide HRE))
        rw [← eda] at HRD
        clear eda HRE
        have b1a := ((unhide HS).step (Below.alloc1 Y2 (.cells #[.int .i64 id] 3))).box.cell (i := 1) rfl
        have b1 := (unhide HS).box.cell (i := 1) rfl
        have o1a := ((unhide HS).step (Below.alloc1 Y2 (.cells #[.int .i64 id] 3))).op.cell (i := 1) rfl
        have hGY := (unhide HS).box.lt
        go_upto_region 27 with (fail)
        go_cut [14] (fun s14 wx => ∃ gr cr : Nat, s14 = .slice (some ⟨gr, 0, none⟩) (1 + (F.length - k)) cr ∧ Y2.heap.size ≤ gr ∧ Hid (RowB 3 1 eI 0 wx (some ⟨gr, 0, none⟩) (1 + (F.length - k)) cr ([id] ++ F.drop k)) ∧ Hid (Below Y2.heap.size Y2 wx))
        case first =>
          go_region_law (first | (refine step_appTo tyI (by rfl) (.tmp 141) (.tmp 145) (by rfl) 0 Y2.heap.size 1 1 [id] (by rfl) (by first | exact unhide HRB | exact (unhide HRB).below (Below.refl _ _).drew) (Nat.zero_le _) (by omega) da (F.length - k) (fcap - k) (F.drop k) (by rfl) (by first | exact unhide HRD | exact RecsIn.below (unhide HRD) (Below.refl _ _).drew) (by omega) ?_; intro gr cr wr2 hL hK hor; have HLR := hide hL; have HBR : Hid (Below Y2.heap.size Y2 wr2) := (by first | exact (Below.alloc1 _ _).trans (hK.below (Below.alloc1 _ _).size (fun b e => by omega)) | exact (Below.alloc1 _ _).drew.trans (hK.below (Below.alloc1 _ _).size (fun b e => by omega))); have hgr : Y2.heap.size ≤ gr := hor.elim (fun e => by omega) (fun e => by rw [e]; exact (Below.alloc1 _ _).size); clear hL hK hor))
          all_goals
            go_wp2_with fail
            go_meet
            first
              | exact ⟨gr, cr, rfl, hgr, HLR, HBR⟩
              | exact ⟨gr, cr, rfl, hgr, hide ((unhide HLR).below (Below.refl _ _).drew), hide (unhide HBR).drew⟩
        case rest =>
          obtain ⟨gr, cr, rfl, q1, HLR, HBR⟩ := hcut
          generalize wc = Z at *
          clear HRB HRD b1 b1a o1 o1a hsl hsl2 hGY
          have hYZ := (unhide HBR).size
          have HSZ := hide ((unhide HS).step (unhide HBR))
          have hgrZ := ((unhide HLR).ownG (by omega)).2.2.2.1
          have A13 := Below.alloc1 Z (.cells #[] 3)
          have HN := hide (rowB_new 3 1 eI Z 0 (Nat.zero_le _))
          have HRT := hide (recs_take (k := k) (((unhide HSZ).bk.frow.below A13).recs (by omega)) hk)
          have hcapk : (k : Int) ≤ fcap := by omega
          have hs1 := fun V => slice_hiI (ba := some ⟨f, 0, none⟩) (m := F.length) ⟨_, rfl⟩ hcapk V
          have hs2 := fun V => sliceAt_hiI (ba := some ⟨f, 0, none⟩) (m := F.length) ⟨_, rfl⟩ hcapk V
          have b1a := ((unhide HSZ).step A13).box.cell (i := 1) rfl
          have HZ1 := hide A13
          clear A13
          go_upto_region 29 with (at_builtin; first | ((have xx := unhide HL1; clear xx); go_must (refine wpList_appTo tyI _ rfl (.tmp 152) (.tmp 153) rfl 0 g1 k c1 (F.take k) rfl (unhide HL1) (Nat.zero_le _) (by omega) (some ⟨gr, 0, none⟩) (1 + (F.length - k)) cr ([id] ++ F.drop k) rfl (unhide HLR1) (by omega) ?_); intro g2 c2 w2 hL hK hor; have HL2 := hide hL; have HBZ2 : Hid (Below Z.heap.size Z w2) := (unhide HBZ).trans (hK.below (unhide HBZ).size (fun b e => by omega)); have hg2 : Z.heap.size ≤ g2 := hor.elim (fun e => by omega) (fun e => by rw [e]; exact (unhide HBZ).size); have b1c := ((unhide HSZ).step (unhide HBZ2)).box.cell (i := 1) rfl; have bfc := ((unhide HSZ).step (unhide HBZ2)).box.frozen; clear hL hK hor) | (go_must (refine wpList_appTo tyI _ rfl (.tmp 147) (.tmp 151) rfl 0 Z.heap.size 0 0 [] rfl (unhide HN) (Nat.zero_le _) (by omega) (some ⟨f, 0, none⟩) k fcap (F.take k) rfl (unhide HRT) (by omega) ?_); intro g1 c1 w1 hL hK hor; rw [Nat.zero_add, List.nil_append] at hL; have HL1 := hide hL; have HBZ : Hid (Below Z.heap.size Z w1) := (unhide HZ1).trans (hK.below (unhide HZ1).size (fun b e => by omega)); have HLR1 := hide (((unhide HLR).kept (kept_of_below (T := fun _ => False) (unhide HBZ)) (fun _ _ _ _ h => h)).recs (by omega)); have hg1 : Z.heap.size ≤ g1 := hor.elim (fun e => by omega) (fun e => by rw [e]; exact (unhide HZ1).size); have hg1w := (hL.ownG (by omega)).2.2.2.1; clear hL hK hor))
          have eLn : k + (1 + (F.length - k)) = F.length + 1 := by omega
          rw [eLn] at HL2 ⊢
          have HS9 := hide ((unhide HS).free (Below.step (unhide HBR) (unhide HBZ2)) (unhide HL2) (by omega))
          obtain ⟨V7, eV7⟩ : ∃ V, V = w2.setCell ⟨G, 1, none⟩ (.slice (some ⟨g2, 0, none⟩) (F.length + 1) c2) := ⟨_, rfl⟩
          rw [← eV7] at HS9 ⊢
          have ED : Hid (doB (L, F) (kd, id, who, tt, num, many) = ((L.set kk (yi, ys, yo, ym, YH), F.take k ++ ([id] ++ F.drop k)), 0)) := by show _ = _; rw [unhide ED0, if_pos (unhide HK4), unhide EP]; rfl
          clear eV7 eLn HL1 HL2 HLR HLR1 HBZ HBZ2 HBR HN HRT HZ1 ED0 HS HSZ b1a b1c bfc hs1 hs2 hcapk
          have HS := HS9
          clear HS9
          have a0 := (unhide HS).arg.cell (i := 0) rfl
          have a1 := (unhide HS).arg.cell (i := 1) rfl
          have o0 := (unhide HS).op.cell (i := 0) rfl
          have o1 := (unhide HS).op.cell (i := 1) rfl
          have o2 := (unhide HS).op.cell (i := 2) rfl
          have o3 := (unhide HS).op.cell (i := 3) rfl
          have o4 := (unhide HS).op.cell (i := 4) rfl
          have o5 := (unhide HS).op.cell (i := 5) rfl
          have b0 := (unhide HS).box.cell (i := 0) rfl
          have b1 := (unhide HS).box.cell (i := 1) rfl
          have bf := (unhide HS).box.frozen
          have r0 := (unhide HS).res.cell (i := 0) rfl
          have r1 := (unhide HS).res.cell (i := 1) rfl
          have rf := (unhide HS).res.frozen
          have HF := hide (unhide HS).fin
          have hn1 : ¬ G = w.heap.size + 2 := by omega
          go_wp2
          have k0 := (unhide HF).1.cell (i := 0) rfl
          have k1 := (unhide HF).1.cell (i := 1) rfl
          refine bodyPost_ret (v := .tuple #[vBook (.slice (some ⟨g, 0, none⟩) L.length cap) (.slice (some ⟨g2, 0, none⟩) (F.length + 1) c2), .int .i64 0]) (by simp [results, Try.results9, go_sem, vBook, k0, k1]) rfl ?_
          show BAns _ _ _ _
          rw [unhide ED]
          have hin := (unhide HF).2.1
          rw [unhide HE] at hin
          exact ⟨_, _, rfl, hin, (unhide HF).2.2⟩

end Go.Proofs.Ytdcbonfhakdhhaa
