/- Bills: the contract of the program's passed. Written by wip/mkblo.py. -/
import Derived.Test.YtdcbonfhakdhhaaBlN
import Derived.Test.YtdcbonfhakdhhaaBlT
namespace Go.Proofs.Ytdcbonfhakdhhaa
open Go.RowKit

/-- A whole bill of a row is written anew. -/
theorem RowB.putBl {w : World} {g m cap k : Nat} {E : List EBl} (h : RowB 40 5 eBl 0 w (some ⟨g, 0, none⟩) m cap E) (hk : k < E.length) (y : EBl) :
    RowB 40 5 eBl 0 (((((w.setCell ⟨g, k * 5, none⟩ (eBl y 0)).setCell ⟨g, k * 5 + 1, none⟩ (eBl y 1)).setCell ⟨g, k * 5 + 2, none⟩ (eBl y 2)).setCell ⟨g, k * 5 + 3, none⟩ (eBl y 3)).setCell ⟨g, k * 5 + 4, none⟩ (eBl y 4)) (some ⟨g, 0, none⟩) m cap (E.set k y) := by
  obtain ⟨vs, hB, hl, ht, hc, hm⟩ := h.blk
  have hEl := h.len (by omega)
  have hB5 := ((((hB.set (k * 5) (eBl y 0)).set (k * 5 + 1) (eBl y 1)).set (k * 5 + 2) (eBl y 2)).set (k * 5 + 3) (eBl y 3)).set (k * 5 + 4) (eBl y 4)
  refine hB5.rowOf (by rw [List.length_set]; exact hEl) hc hm (by simpa using hl) ?_
  apply List.ext_getElem?
  intro q
  by_cases hq : q < m * 5
  · rw [List.getElem?_take, if_pos hq]
    have e1 : (recCells 5 eBl (E.set k y))[q]? = some (eBl ((E.set k y).getD (q / 5) default) (q % 5)) := by
      have := recCells_get (enc := eBl) (L := E.set k y) (n := 5) (i := q / 5) (j := q % 5) (by rw [List.length_set]; omega) (by omega)
      rwa [show q / 5 * 5 + q % 5 = q by omega] at this
    have e2 : vs[q]? = some (eBl (E.getD (q / 5) default) (q % 5)) := by
      have h9 : (vs.take (m * 5))[q]? = (recCells 5 eBl E)[q]? := by rw [ht]
      rw [List.getElem?_take, if_pos hq] at h9
      rw [h9]
      have := recCells_get (enc := eBl) (L := E) (n := 5) (i := q / 5) (j := q % 5) (by omega) (by omega)
      rwa [show q / 5 * 5 + q % 5 = q by omega] at this
    rw [e1]
    have hvl : q < vs.length := by
      rcases Nat.lt_or_ge q vs.length with h | h
      · exact h
      · rw [List.getElem?_eq_none h] at e2; cases e2
    by_cases hqk : q / 5 = k
    · have hg : (E.set k y).getD (q / 5) default = y := by rw [hqk]; simp [List.getD, hk]
      rw [hg]
      have : q % 5 = 0 ∨ q % 5 = 1 ∨ q % 5 = 2 ∨ q % 5 = 3 ∨ q % 5 = 4 := by omega
      rcases this with e | e | e | e | e
      · have : q = k * 5 := by omega
        subst this
        rw [List.getElem?_set_ne (by omega), List.getElem?_set_ne (by omega), List.getElem?_set_ne (by omega), List.getElem?_set_ne (by omega), List.getElem?_set_self (by omega), e]
      · have : q = k * 5 + 1 := by omega
        subst this
        rw [List.getElem?_set_ne (by omega), List.getElem?_set_ne (by omega), List.getElem?_set_ne (by omega), List.getElem?_set_self (by rw [List.length_set]; omega), e]
      · have : q = k * 5 + 2 := by omega
        subst this
        rw [List.getElem?_set_ne (by omega), List.getElem?_set_ne (by omega), List.getElem?_set_self (by rw [List.length_set, List.length_set]; omega), e]
      · have : q = k * 5 + 3 := by omega
        subst this
        rw [List.getElem?_set_ne (by omega), List.getElem?_set_self (by rw [List.length_set, List.length_set, List.length_set]; omega), e]
      · have : q = k * 5 + 4 := by omega
        subst this
        rw [List.getElem?_set_self (by rw [List.length_set, List.length_set, List.length_set, List.length_set]; omega), e]
    · have hg : (E.set k y).getD (q / 5) default = E.getD (q / 5) default := by simp [List.getD, List.getElem?_set_ne (fun e => hqk e.symm)]
      rw [hg, List.getElem?_set_ne (by omega), List.getElem?_set_ne (by omega), List.getElem?_set_ne (by omega), List.getElem?_set_ne (by omega), List.getElem?_set_ne (by omega)]
      exact e2
  · rw [List.getElem?_eq_none (by rw [List.length_take]; omega), List.getElem?_eq_none (by rw [recCells_length, List.length_set]; omega)]
theorem OwnH.swap {A : Nat → Prop} {w : World} {g k : Nat} {E : List EBl} (h : OwnH A w g E) (y : EBl) (hy : OwnV w y.2.1 (strs y.1.2.2.2.2) ∧ A y.2.1 ∧ y.2.1 ≠ g ∧ y.1.2.2.2.2.length ≤ y.2.2 ∧ y.2.2 ≤ maxLen) (hn : ∀ x ∈ E, x.2.1 ≠ y.2.1) : OwnH A w g (E.set k y) := by
  refine ⟨fun x hx => ?_, ?_⟩
  · rcases List.mem_or_eq_of_mem_set hx with hx | rfl
    · exact h.own x hx
    · exact hy
  · by_cases hk : k < E.length
    · rw [List.map_set]
      have hp := h.apart
      rw [List.nodup_iff_pairwise_ne, List.pairwise_iff_getElem] at hp ⊢
      intro i j hi hj hij
      rw [List.length_set] at hi hj
      rw [List.getElem_set, List.getElem_set]
      have hmem : ∀ t (ht : t < (E.map (·.2.1)).length), (E.map (·.2.1))[t] ≠ y.2.1 := fun t ht => by
        rw [List.getElem_map]
        exact hn _ (List.getElem_mem _)
      split
      · split
        · omega
        · exact fun e => hmem j hj e.symm
      · split
        · exact hmem i hi
        · exact hp i j hi hj hij
    · rw [List.set_eq_of_length_le (by omega)]
      exact h.apart
theorem pass_parts {x y : BlT} {o : BillOpT} (h : passV x o = some y) (hx : (x.2.2.2.2.length : Int) = x.2.2.2.1) (ho : opB o = true) (h1 : o.1 ≠ 1) : y.1 = x.1 ∧ y.2.1 = x.2.1 ∧ (y.2.2.2.2.length : Int) = y.2.2.2.1 := by
  have hk := op_kind ho
  have hne := h1
  unfold passV at h
  split at h
  · split at h
    · cases h; exact ⟨rfl, rfl, hx⟩
    · cases h
  · split at h
    · split at h
      · cases h; exact ⟨rfl, rfl, by simpa using hx⟩
      · cases h
    · split at h
      · split at h
        · cases h; exact ⟨rfl, rfl, by simpa using hx⟩
        · cases h
      · split at h
        · have hm := op_many ho (by omega)
          cases h
          exact ⟨rfl, rfl, by simp; omega⟩
        · cases h
section
variable {A : Nat → Prop} {w cur w4 w5 : World} {bv fv : Value} {ov : List Value} {g m cap f mf fcap : Nat} {E : List EBl} {F : List Int}
theorem Bx.over (h : Bx A w cur bv fv ov g m cap f mf fcap E F) (hb : Below cur.heap.size cur w4) (hk : Kept (fun b => cur.heap.size ≤ b) w4 w5) (hA : ∀ k, w.heap.size ≤ k → A k) : Bx A w w5 bv fv ov g m cap f mf fcap E F := by
  have hK : Kept (fun b => cur.heap.size ≤ b) cur w5 := (kept_of_below hb).trans hk
  have hl := h.lt
  exact ⟨h.kept.trans (hK.mono fun b _ e => hA _ (by omega)), h.own.kept hK (by omega), h.op.kept hK (by omega), h.res.kept hK (by omega), h.pbk.keptL hK (fun k h1 _ h2 => by omega)⟩
end
theorem bills_set (E : List EBl) (k : Nat) (y : EBl) : bills (E.set k y) = (bills E).set k y.1 := by simp [bills, List.map_set]
/-- The book with one bill written anew. -/
theorem PBk.put {A : Nat → Prop} {w : World} {g m cap f mf fcap k : Nat} {E : List EBl} {F : List Int} (h : PBk A w g m cap f mf fcap E F) (hk : k < E.length) (y : EBl) (hy : OwnV w y.2.1 (strs y.1.2.2.2.2) ∧ A y.2.1 ∧ y.2.1 ≠ g ∧ y.1.2.2.2.2.length ≤ y.2.2 ∧ y.2.2 ≤ maxLen) (hn : ∀ x ∈ E, x.2.1 ≠ y.2.1) (hyf : y.2.1 ≠ f) :
    PBk A (((((w.setCell ⟨g, k * 5, none⟩ (eBl y 0)).setCell ⟨g, k * 5 + 1, none⟩ (eBl y 1)).setCell ⟨g, k * 5 + 2, none⟩ (eBl y 2)).setCell ⟨g, k * 5 + 3, none⟩ (eBl y 3)).setCell ⟨g, k * 5 + 4, none⟩ (eBl y 4)) g m cap f mf fcap (E.set k y) F := by
  have hK : Kept (fun b => b = g) w (((((w.setCell ⟨g, k * 5, none⟩ (eBl y 0)).setCell ⟨g, k * 5 + 1, none⟩ (eBl y 1)).setCell ⟨g, k * 5 + 2, none⟩ (eBl y 2)).setCell ⟨g, k * 5 + 3, none⟩ (eBl y 3)).setCell ⟨g, k * 5 + 4, none⟩ (eBl y 4)) :=
    (((((Kept.refl (fun b => b = g) w).setCell (p := ⟨g, k * 5, none⟩) rfl _).setCell (p := ⟨g, k * 5 + 1, none⟩) rfl _).setCell (p := ⟨g, k * 5 + 2, none⟩) rfl _).setCell (p := ⟨g, k * 5 + 3, none⟩) rfl _).setCell (p := ⟨g, k * 5 + 4, none⟩) rfl _
  refine ⟨h.row.putBl hk y, h.top, (h.hld.kept hK fun x hx => (h.hld.own x hx).2.2.1).swap y ⟨hy.1.kept hK hy.2.2.1, hy.2⟩ hn, h.frow.kept hK (fun f' e _ _ => by simp only [Option.some.injEq, Addr.mk.injEq, and_true] at e; subst e; exact h.fne), h.ftop, h.fne, fun x hx => ?_⟩
  rcases List.mem_or_eq_of_mem_set hx with hx | rfl
  · exact h.fap x hx
  · exact hyf
/-- The book with one freed number more. -/
theorem PBk.free {A : Nat → Prop} {cur cur' : World} {g m cap f mf fcap f' c' : Nat} {E : List EBl} {F F' : List Int} (h : PBk A cur g m cap f mf fcap E F) (hr : RowB 3 1 eI 0 cur' (some ⟨f', 0, none⟩) (mf + 1) c' F') (hk : Kept (fun b => b = f) cur cur') (hor : f' = f ∨ cur.heap.size ≤ f') (hA : ∀ j, cur.heap.size ≤ j → A j) : PBk A cur' g m cap f' (mf + 1) c' E F' := by
  obtain ⟨-, -, -, hgl, -⟩ := h.row.ownG (by omega)
  refine ⟨h.row.kept hk (fun g' e _ _ => by simp only [Option.some.injEq, Addr.mk.injEq, and_true] at e; subst e; exact fun e => h.fne e.symm), h.top, h.hld.kept hk fun x hx => h.fap x hx, hr, ?_, ?_, fun x hx => ?_⟩
  · rcases hor with rfl | h1
    · exact h.ftop
    · exact hA _ h1
  · rcases hor with rfl | h1
    · exact h.fne
    · omega
  · rcases hor with rfl | h1
    · exact h.fap x hx
    · have := (h.hld.own x hx).1.lt
      omega

set_option maxRecDepth 100000 in
set_option maxHeartbeats 8000000 in
theorem passed_any (A : Nat → Prop) (g m cap f mf fcap : Nat) (E : List EBl) (F : List Int) (kd id : Int) (who tt : ByteArray) (num many : Int) (w : World) (h : PBk A w g m cap f mf fcap E F) (hA : ∀ k, w.heap.size ≤ k → A k) (hbd : Bd (bills E, F)) (hbk : bookB (bills E, F) = true) (hop : opB (kd, id, who, tt, num, many) = true) (h1 : kd ≠ 1) :
    Calls Try.prog 65 #[vBook (.slice (some ⟨g, 0, none⟩) m cap) (.slice (some ⟨f, 0, none⟩) mf fcap), vBillOp kd id who tt num many] w fun e w' => PAns A w (doB (bills E, F) (kd, id, who, tt, num, many)) e w' := by
  obtain ⟨hEl, hFl⟩ := h.lens
  obtain ⟨h30, hup, hfr⟩ := book_parts hbk
  have hasc := up_asc hup
  have hfasc := fr_asc hfr
  have HPO := hide fun hh => place_of (b := (bills E, F)) (id := id) hbk hh
  have EDO : Hid (doB (bills E, F) (kd, id, who, tt, num, many) = if hasB (bills E) id = false then ((bills E, F), (3 : Int)) else if F.contains id then ((bills E, F), (4 : Int)) else match passV ((bills E).getD (plc (bills E) id) default) (kd, id, who, tt, num, many) with
      | none => ((bills E, F), (5 : Int))
      | some x => (((bills E).set (plc (bills E) id) x, if kd = 4 then insL F (fplc F id) id else F), (0 : Int))) := by
    show _ = _
    unfold doB
    rw [if_neg (by rw [hbk, hop]; simp), if_neg h1]
    rfl
  have HB0 := hide (bx_new h #[.slice (some ⟨g, 0, none⟩) m cap, .slice (some ⟨f, 0, none⟩) mf fcap] #[.int .i64 kd, .int .i64 id, .string who, .string tt, .int .i64 num, .int .i64 many] #[.slice none 0 0, .slice none 0 0] 27 34 27 rfl rfl)
  obtain ⟨V1, eV1⟩ : ∃ V, V = ((w.alloc (.cells #[.slice (some ⟨g, 0, none⟩) m cap, .slice (some ⟨f, 0, none⟩) mf fcap] 27)).alloc (.cells #[.int .i64 kd, .int .i64 id, .string who, .string tt, .int .i64 num, .int .i64 many] 34)).alloc (.cells #[.slice none 0 0, .slice none 0 0] 27) := ⟨_, rfl⟩
  rw [← eV1] at HB0
  have HB : Hid (Bx A w V1 (.slice (some ⟨g, 0, none⟩) m cap) (.slice (some ⟨f, 0, none⟩) mf fcap) [.int .i64 kd, .int .i64 id, .string who, .string tt, .int .i64 num, .int .i64 many] g m cap f mf fcap E F) := HB0
  clear HB0
  have QA : Hid (∀ V bv fv, BkIn V bv fv (bills E, F) → Calls Try.prog 45 #[vBook bv fv, .int .i64 id] V fun e w' => e = .returned (.tuple #[.int .i64 (plc (bills E) id : Nat), .bool (hasB (bills E) id)]) ∧ Below V.heap.size V w') := fun V bv fv hV => by
    have := billAt_any bv fv (bills E, F) id V hV hbd.1 hasc
    rwa [at_has hasc] at this
  have QF := hide fun V bv fv (hV : BkIn V bv fv (bills E, F)) => isFreed_any bv fv (bills E, F) id V hV hbd.2.1 hfasc
  have QFW := hide fun V hV => withFreed_any f mf fcap F id V hV (by rw [← hFl]; exact hbd.2.1) hfasc
  have HBD := hide hbd
  have HUB : Hid (∀ i, i < E.length → billB (E.getD i default).1 = true) := fun i hi => by
    have := up_bill hup (i := i) (by rw [List.length_map]; exact hi)
    rwa [getD_lt (by rw [List.length_map]; exact hi), List.getElem_map, ← getD_lt (d := default) hi] at this
  have HOP := hide hop
  have HBS := hide fun k y => bills_set E k y
  dsimp only at QF HPO
  rw [List.length_map, hEl] at HPO
  clear h hbk hup hasc h30 hbd hfr hfasc hop
  generalize hasB (bills E) id = z at *
  generalize F.contains id = z2 at *
  obtain ⟨k, ek⟩ : ∃ k, k = plc (bills E) id := ⟨_, rfl⟩
  rw [← ek] at EDO QA HPO
  clear ek
  unfold vBook at QA QF
  unfold vBook vBillOp
  go_enter Try.func65, Try.ntmps65
  go_upto_region 1 with (fail)
  rw [← eV1]
  clear eV1
  have q0 := (unhide HB).own.cell (i := 0) rfl
  have q1 := (unhide HB).own.cell (i := 1) rfl
  have o1 := (unhide HB).op.cell (i := 1) rfl
  go_wp2_with fail
  refine (unhide QA _ _ _ (unhide HB).pbk.inn).mono ?_
  rintro e w1 ⟨rfl, hb⟩
  replace HB := hide ((unhide HB).step hb)
  clear hb QA q0 q1 o1
  have q0 := (unhide HB).own.cell (i := 0) rfl
  have q1 := (unhide HB).own.cell (i := 1) rfl
  cases hz : z with
  | false =>
    subst hz
    clear QF QFW HPO
    have r0 := (unhide HB).res.cell (i := 0) rfl
    have r1 := (unhide HB).res.cell (i := 1) rfl
    have rf := (unhide HB).res.frozen
    have HR := hide ((unhide HB).res2 (.slice (some ⟨g, 0, none⟩) m cap) (.slice (some ⟨f, 0, none⟩) mf fcap))
    have hn1 : ¬ w.heap.size = w.heap.size + 2 := by omega
    go_wp2
    have k0 := (unhide HR).2.1.cell (i := 0) rfl
    have k1 := (unhide HR).2.1.cell (i := 1) rfl
    refine bodyPost_ret (v := .tuple #[vBook (.slice (some ⟨g, 0, none⟩) m cap) (.slice (some ⟨f, 0, none⟩) mf fcap), .int .i64 3]) (by simp [results, Try.results65, go_sem, vBook, k0, k1]) rfl ?_
    show PAns _ _ _ _ _
    rw [unhide EDO, if_pos (by simp)]
    exact ⟨g, m, cap, f, mf, fcap, E, rfl, rfl, (unhide HR).2.2, keptOr (unhide HR).1⟩
  | true =>
    subst hz
    obtain ⟨hkm, -, -⟩ := unhide HPO (by simp)
    clear HPO
    have o1 := (unhide HB).op.cell (i := 1) rfl
    go_wp2_with fail
    refine (unhide QF _ _ _ (unhide HB).pbk.inn).mono ?_
    rintro e w2 ⟨rfl, hb⟩
    replace HB := hide ((unhide HB).step hb)
    clear hb QF q0 q1 o1
    have q0 := (unhide HB).own.cell (i := 0) rfl
    have q1 := (unhide HB).own.cell (i := 1) rfl
    cases hz : z2 with
    | true =>
      subst hz
      clear QFW
      have r0 := (unhide HB).res.cell (i := 0) rfl
      have r1 := (unhide HB).res.cell (i := 1) rfl
      have rf := (unhide HB).res.frozen
      have HR := hide ((unhide HB).res2 (.slice (some ⟨g, 0, none⟩) m cap) (.slice (some ⟨f, 0, none⟩) mf fcap))
      have hn1 : ¬ w.heap.size = w.heap.size + 2 := by omega
      go_wp2
      have k0 := (unhide HR).2.1.cell (i := 0) rfl
      have k1 := (unhide HR).2.1.cell (i := 1) rfl
      refine bodyPost_ret (v := .tuple #[vBook (.slice (some ⟨g, 0, none⟩) m cap) (.slice (some ⟨f, 0, none⟩) mf fcap), .int .i64 4]) (by simp [results, Try.results65, go_sem, vBook, k0, k1]) rfl ?_
      show PAns _ _ _ _ _
      rw [unhide EDO, if_neg (by simp), if_pos (by simp)]
      exact ⟨g, m, cap, f, mf, fcap, E, rfl, rfl, (unhide HR).2.2, keptOr (unhide HR).1⟩
    | false =>
      subst hz
      have hkE : k < E.length := by rw [hEl]; exact hkm
      have hki : (k : Int) < m := by omega
      have hrow := ((unhide HB).pbk.row.ownG (by omega)).1
      have hxm : E.getD k default ∈ E := by rw [getD_lt hkE]; exact List.getElem_mem _
      obtain ⟨v1, v2, v3, v4, v5⟩ := (unhide HB).pbk.hld.own _ hxm
      have hbx := unhide HUB k hkE
      have hgl : (bills E).getD k default = (E.getD k default).1 := by rw [getD_lt (by rw [List.length_map]; exact hkE), List.getElem_map, ← getD_lt (d := default) hkE]
      have hhl : (E.getD k default).1.2.2.2.2.length ≤ 1048576 := (unhide HBD).2.2 _ (List.mem_map_of_mem hxm)
      rw [hgl] at EDO
      obtain ⟨xx, exx⟩ : ∃ x, x = E.getD k default := ⟨_, rfl⟩
      rw [← exx] at v1 v2 v3 v4 v5 hbx EDO hhl
      have hxx : E.getD k default = xx := exx.symm
      clear exx hgl hxm
      obtain ⟨⟨xi, sh, od, mn, H⟩, gb, cb⟩ := xx
      obtain ⟨c0, c1, c2, c3, c4⟩ := hrow.blCells hkE hxx
      dsimp only at v1 v4 v5 hbx EDO hhl
      have hpm := (bill_parts hbx).2.2.2.2.1
      dsimp only at hpm
      have QP := hide (paperOf_any xi sh od mn (some ⟨gb, 0, none⟩) H.length cb H w2 (OwnV.cIn v1 v4 v5) hhl)
      have HPP := hide fun y hy => pass_parts (x := (xi, sh, od, mn, H)) (y := y) (o := (kd, id, who, tt, num, many)) hy hpm (unhide HOP) h1
      have HPL := hide fun y hy => pass_len (x := (xi, sh, od, mn, H)) (y := y) (o := (kd, id, who, tt, num, many)) hy (unhide HOP) h1 hhl
      unfold vBill at QP
      clear v1 v2 v3 v4 v5 hbx hpm hrow
      go_wp2_with fail
      refine (unhide QP).mono ?_
      rintro e w3 ⟨pg, rfl, hP, hb⟩
      have HBb := hide hb
      have QD := hide (do_any w2.heap.size pg xi sh od mn H kd id who tt num many w3 hP (unhide HOP) h1 hhl hb.size)
      have op0 := ((unhide HB).step hb).op.cell (i := 0) rfl
      have op1 := ((unhide HB).step hb).op.cell (i := 1) rfl
      have op2 := ((unhide HB).step hb).op.cell (i := 2) rfl
      have op3 := ((unhide HB).step hb).op.cell (i := 3) rfl
      have op4 := ((unhide HB).step hb).op.cell (i := 4) rfl
      have op5 := ((unhide HB).step hb).op.cell (i := 5) rfl
      unfold vBillOp at QD
      clear hb hP QP c0 c1 c2 c3 c4 q0 q1
      go_wp2_with fail
      refine (unhide QD).mono ?_
      rintro e w4 hD
      obtain ⟨rfl, hPd, hKd⟩ := hD
      replace HB := hide ((unhide HB).over (unhide HBb) hKd hA)
      have HPD := hide hPd
      clear QD hKd hPd HBb op0 op1 op2 op3 op4 op5
      have q0 := (unhide HB).own.cell (i := 0) rfl
      have q1 := (unhide HB).own.cell (i := 1) rfl
      cases hpv : passV (xi, sh, od, mn, H) (kd, id, who, tt, num, many) with
      | none =>
        rw [hpv] at EDO
        clear QFW HPD
        have r0 := (unhide HB).res.cell (i := 0) rfl
        have r1 := (unhide HB).res.cell (i := 1) rfl
        have rf := (unhide HB).res.frozen
        have HR := hide ((unhide HB).res2 (.slice (some ⟨g, 0, none⟩) m cap) (.slice (some ⟨f, 0, none⟩) mf fcap))
        have hn1 : ¬ w.heap.size = w.heap.size + 2 := by omega
        go_wp2
        have k0 := (unhide HR).2.1.cell (i := 0) rfl
        have k1 := (unhide HR).2.1.cell (i := 1) rfl
        refine bodyPost_ret (v := .tuple #[vBook (.slice (some ⟨g, 0, none⟩) m cap) (.slice (some ⟨f, 0, none⟩) mf fcap), .int .i64 5]) (by simp [results, Try.results65, go_sem, vBook, k0, k1]) rfl ?_
        show PAns _ _ _ _ _
        rw [unhide EDO, if_neg (by simp), if_neg (by simp)]
        exact ⟨g, m, cap, f, mf, fcap, E, rfl, rfl, (unhide HR).2.2, keptOr (unhide HR).1⟩
      | some y =>
        rw [hpv] at EDO HPD
        obtain ⟨y1, y2, y3⟩ := unhide HPP y hpv
        have hyl := unhide HPL y hpv
        dsimp only [Option.getD] at HPD
        obtain ⟨yi, ysh, yod, ymn, YH⟩ := y
        dsimp only at y1 y2 y3 hyl HPD
        subst y1 y2 y3
        clear HPP HPL hpv
        have QW := hide fun V hV => written_any w2.heap.size pg yod YH yi ysh od mn (some ⟨gb, 0, none⟩) H.length cb V hV hyl
        unfold vBill at QW
        have hgw : g < w4.heap.size := ((unhide HB).pbk.row.ownG (by omega)).2.2.2.1
        have hfw : f < w4.heap.size := ((unhide HB).pbk.frow.ownG (by omega)).2.2.2.1
        have hlt4 := (unhide HB).lt
        have HEl : Hid (∀ x ∈ E, x.2.1 < w4.heap.size) := fun x hx => ((unhide HB).pbk.hld.own x hx).1.lt
        have hgn := (unhide HB).pbk.top.2
        go_upto_region 9 with (fail)
        go_cut [] (fun wx => ∃ (gh : Nat), Hid (Bx A w wx (.slice (some ⟨g, 0, none⟩) m cap) (.slice (some ⟨f, 0, none⟩) mf fcap) [.int .i64 kd, .int .i64 id, .string who, .string tt, .int .i64 num, .int .i64 many] g m cap f mf fcap (E.set k ((yi, ysh, yod, (YH.length : Int), YH), gh, YH.length)) F))
        case first =>
          replace HB := hide ((unhide HB).step (Below.refl _ _).drew)
          replace HPD := hide (unhide HPD).drew
          refine wp_region_held_drew (S := fun w' => w'.cell? ⟨w.heap.size, 0, none⟩ = some (.slice (some ⟨g, 0, none⟩) m cap)) (by kernel_rfl) ((unhide HB).own.cell (i := 0) rfl) (fun hHeld => ?_)
          refine wpAnyH_take (i := 0) (v := ?_) rfl (by kernel_rfl) (by kernel_rfl) (by kernel_rfl) (fun _ _ _ h => h) (Or.inl ⟨by rfl, ?_⟩) (by assumption) ?_
          rotate_left
          · intro wy hS0
            go_simp
            try with_reducible rfl
          try simp only [Act.put, List.getElem_toArray, List.getElem_cons_zero, List.setIfInBounds_toArray, List.set_cons_zero, List.set_cons_succ]
          refine wpAnyH_take (i := 1) (v := ?_) rfl (by kernel_rfl) (by kernel_rfl) (by kernel_rfl) (fun _ _ _ h => h) (Or.inl ⟨by rfl, ?_⟩) (by assumption) ?_
          rotate_left
          · intro wy hS0
            go_simp
            try with_reducible rfl
          try simp only [Act.put, List.getElem_toArray, List.getElem_cons_succ, List.getElem_cons_zero, List.setIfInBounds_toArray, List.set_cons_zero, List.set_cons_succ]
          refine wpAnyH_take (i := 2) (v := ?_) rfl (by kernel_rfl) (by kernel_rfl) (by kernel_rfl) (fun _ _ _ h => h) (Or.inl ⟨by rfl, ?_⟩) (by assumption) ?_
          rotate_left
          · intro wy hS0
            go_simp
            try with_reducible rfl
          try simp only [Act.put, List.getElem_toArray, List.getElem_cons_succ, List.getElem_cons_zero, List.setIfInBounds_toArray, List.set_cons_zero, List.set_cons_succ]
          refine wpAnyH_take (i := 3) (v := ?_) rfl (by kernel_rfl) (by kernel_rfl) (by kernel_rfl) (fun _ _ _ h => h) (Or.inl ⟨by rfl, ?_⟩) (by assumption) ?_
          rotate_left
          · intro wy hS0
            go_simp
            try with_reducible rfl
          try simp only [Act.put, List.getElem_toArray, List.getElem_cons_succ, List.getElem_cons_zero, List.setIfInBounds_toArray, List.set_cons_zero, List.set_cons_succ]
          refine wpAnyH_take (i := 4) (v := ?_) rfl (by kernel_rfl) (by kernel_rfl) (by kernel_rfl) (fun _ _ _ h => h) (Or.inl ⟨by rfl, ?_⟩) (by assumption) ?_
          rotate_left
          · intro wy hS0
            go_simp
            try with_reducible rfl
          try simp only [Act.put, List.getElem_toArray, List.getElem_cons_succ, List.getElem_cons_zero, List.setIfInBounds_toArray, List.set_cons_zero, List.set_cons_succ]
          refine wpAnyH_take (i := 5) (v := ?_) rfl (by kernel_rfl) (by kernel_rfl) (by kernel_rfl) (fun _ _ _ h => h) (Or.inl ⟨by rfl, ?_⟩) (by assumption) ?_
          rotate_left
          · intro wy hS0
            go_simp
            try with_reducible rfl
          try simp only [Act.put, List.getElem_toArray, List.getElem_cons_succ, List.getElem_cons_zero, List.setIfInBounds_toArray, List.set_cons_zero, List.set_cons_succ]
          refine wpAnyH_take (i := 6) (v := ?_) rfl (by kernel_rfl) (by kernel_rfl) (by kernel_rfl) (fun _ _ _ h => h) (Or.inl ⟨by rfl, ?_⟩) (by assumption) ?_
          rotate_left
          · intro wy hS0
            go_simp
            try with_reducible rfl
          try simp only [Act.put, List.getElem_toArray, List.getElem_cons_succ, List.getElem_cons_zero, List.setIfInBounds_toArray, List.set_cons_zero, List.set_cons_succ]
          refine wpAnyH_take (i := 7) (v := ?_) rfl (by kernel_rfl) (by kernel_rfl) (by kernel_rfl) (fun _ _ _ h => h) (Or.inl ⟨by rfl, ?_⟩) (by assumption) ?_
          rotate_left
          · intro wy hS0
            go_simp
            try with_reducible rfl
          try simp only [Act.put, List.getElem_toArray, List.getElem_cons_succ, List.getElem_cons_zero, List.setIfInBounds_toArray, List.set_cons_zero, List.set_cons_succ]
          obtain ⟨c0, c1, c2, c3, c4⟩ := ((unhide HB).pbk.row.ownG (by omega)).1.blCells hkE hxx
          refine wpAnyH_ready (rs := [8]) (by kernel_rfl) (by simp) ?_
          refine AllReadyH.cons rfl (fun K hK => ?_) AllReadyH.nil
          go_simp
          refine hK.out _ _ ((unhide HB).own.cell (i := 0) rfl) (fun hHeld => ?_)
          clear hK K c0 c1 c2 c3 c4
          try simp only [Act.put, List.setIfInBounds_toArray, List.set_cons_zero, List.set_cons_succ]
          refine wpAnyH_ready (rs := [9]) (by kernel_rfl) (by simp) ?_
          refine AllReadyH.cons rfl (fun K hK => ?_) AllReadyH.nil
          go_simp
          refine (unhide QW _ (unhide HPD)).mono ?_
          rintro e w5 ⟨gh, rfl, hgh, hoh, hb⟩
          have hgh' : w4.heap.size ≤ gh := hgh
          replace HB := hide ((unhide HB).step hb)
          have HH := hide hoh
          clear hb hoh hgh QW HPD
          refine hK.out _ _ ((unhide HB).own.cell (i := 0) rfl) (fun hHeld => ?_)
          clear hK K
          try simp only [Act.put, List.setIfInBounds_toArray, List.set_cons_zero, List.set_cons_succ]
          refine wpAnyH_take (i := 10) (v := ?_) rfl (by kernel_rfl) (by kernel_rfl) (by kernel_rfl) (fun _ _ _ h => h) (Or.inl ⟨by rfl, ?_⟩) (by assumption) ?_
          rotate_left
          · intro wy hS0
            go_simp
            try with_reducible rfl
          try simp only [Act.put, List.getElem_toArray, List.getElem_cons_succ, List.getElem_cons_zero, List.setIfInBounds_toArray, List.set_cons_zero, List.set_cons_succ]
          obtain ⟨c0, c1, c2, c3, c4⟩ := ((unhide HB).pbk.row.ownG (by omega)).1.blCells hkE hxx
          have cf := ((unhide HB).pbk.row.ownG (by omega)).1.frozen
          have HN : Hid (Bx A w (((((w5.setCell ⟨g, k * 5, none⟩ (.int .i64 yi)).setCell ⟨g, k * 5 + 1, none⟩ (.string ysh)).setCell ⟨g, k * 5 + 2, none⟩ (.string yod)).setCell ⟨g, k * 5 + 3, none⟩ (.int .i64 (YH.length : Int))).setCell ⟨g, k * 5 + 4, none⟩ (.slice (some ⟨gh, 0, none⟩) YH.length YH.length)) (.slice (some ⟨g, 0, none⟩) m cap) (.slice (some ⟨f, 0, none⟩) mf fcap) [.int .i64 kd, .int .i64 id, .string who, .string tt, .int .i64 num, .int .i64 many] g m cap f mf fcap (E.set k ((yi, ysh, yod, (YH.length : Int), YH), gh, YH.length)) F) := by
            have h9 := unhide HB
            have hpp := h9.pbk.put hkE ((yi, ysh, yod, (YH.length : Int), YH), gh, YH.length) ⟨unhide HH, ⟨hA _ (by dsimp only; omega), Or.inr (by dsimp only; omega)⟩, by dsimp only; omega, Nat.le_refl _, by unfold maxLen; dsimp only; omega⟩ (fun x hx => by have := unhide HEl x hx; dsimp only; omega) (by dsimp only; omega)
            have hAg : A g := h9.pbk.top.1
            refine ⟨((((h9.kept.setCell (p := ⟨g, k * 5, none⟩) hAg _).setCell (p := ⟨g, k * 5 + 1, none⟩) hAg _).setCell (p := ⟨g, k * 5 + 2, none⟩) hAg _).setCell (p := ⟨g, k * 5 + 3, none⟩) hAg _).setCell (p := ⟨g, k * 5 + 4, none⟩) hAg _, ?_, ?_, ?_, hpp⟩
            · exact farN (farN (farN (farN (farN h9.own (by omega) _ _) (by omega) _ _) (by omega) _ _) (by omega) _ _) (by omega) _ _
            · exact farN (farN (farN (farN (farN h9.op (by omega) _ _) (by omega) _ _) (by omega) _ _) (by omega) _ _) (by omega) _ _
            · exact farN (farN (farN (farN (farN h9.res (by omega) _ _) (by omega) _ _) (by omega) _ _) (by omega) _ _) (by omega) _ _
          clear HB HH
          have HB := HN
          clear HN
          refine wpAnyH_ready (rs := [11]) (by kernel_rfl) (by simp) ?_
          refine AllReadyH.cons rfl (fun K hK => ?_) AllReadyH.nil
          go_simp
          refine hK.out _ _ ((unhide HB).own.cell (i := 0) rfl) (fun hHeld => ?_)
          clear hK K c0 c1 c2 c3 c4 cf
          try simp only [Act.put, List.setIfInBounds_toArray, List.set_cons_zero, List.set_cons_succ]
          refine wpAnyH_done (by kernel_rfl) ?_ _
          go_wp2_with fail
          go_meet
          exact ⟨gh, HB⟩
        case rest =>
          obtain ⟨gh, HB'⟩ := hcut
          clear HB HPD QW HEl hgw hfw hlt4 q0 q1
          have HB := HB'
          clear HB'
          have q0 := (unhide HB).own.cell (i := 0) rfl
          have q1 := (unhide HB).own.cell (i := 1) rfl
          have op0 := (unhide HB).op.cell (i := 0) rfl
          have op1 := (unhide HB).op.cell (i := 1) rfl
          have EDN : Hid (doB (bills E, F) (kd, id, who, tt, num, many) = (((bills E).set k (yi, ysh, yod, (YH.length : Int), YH), if kd = 4 then insL F (fplc F id) id else F), 0)) := by
            show _ = _
            rw [unhide EDO, if_neg (by simp), if_neg (by simp)]
          clear EDO
          by_cases hk4 : kd = 4
          · subst hk4
            rw [if_pos rfl] at EDN
            have QW := hide (unhide QFW wc (unhide HB).pbk.frow)
            clear QFW
            go_wp2_with fail
            refine (unhide QW).mono ?_
            rintro e w6 ⟨f', c', rfl, hr, hk, hor⟩
            have hB := unhide HB
            have hlz := hB.lt
            have hfn := hB.pbk.ftop
            have hpf := hB.pbk.free hr hk hor (fun j hj => ⟨hA _ (by omega), Or.inr (by omega)⟩)
            have HN : Hid (Bx A w w6 (.slice (some ⟨g, 0, none⟩) m cap) (.slice (some ⟨f, 0, none⟩) mf fcap) [.int .i64 4, .int .i64 id, .string who, .string tt, .int .i64 num, .int .i64 many] g m cap f' (mf + 1) c' (E.set k ((yi, ysh, yod, (YH.length : Int), YH), gh, YH.length)) (insL F (fplc F id) id)) :=
              ⟨hB.kept.trans (hk.mono fun b _ e => by rw [e]; exact hfn.1), hB.own.kept hk (by have := hfn.2; omega), hB.op.kept hk (by have := hfn.2; omega), hB.res.kept hk (by have := hfn.2; omega), hpf⟩
            clear HB hB hpf hr hk hor QW q0 q1 op0 op1 hlz hfn
            have q0 := (unhide HN).own.cell (i := 0) rfl
            have q1 := (unhide HN).own.cell (i := 1) rfl
            have qf := (unhide HN).own.frozen
            have HB : Hid (Bx A w (w6.setCell ⟨w.heap.size, 1, none⟩ (.slice (some ⟨f', 0, none⟩) (mf + 1) c')) (.slice (some ⟨g, 0, none⟩) m cap) (.slice (some ⟨f', 0, none⟩) (mf + 1) c') [.int .i64 4, .int .i64 id, .string who, .string tt, .int .i64 num, .int .i64 many] g m cap f' (mf + 1) c' (E.set k ((yi, ysh, yod, (YH.length : Int), YH), gh, YH.length)) (insL F (fplc F id) id)) := by
              have h9 := unhide HN
              exact ⟨h9.kept.setCell (p := ⟨w.heap.size, 1, none⟩) (hA _ (Nat.le_refl _)) _, h9.own.set 1 _ (by simp), farN h9.op (by omega) _ _, farN h9.res (by omega) _ _, h9.pbk.far (by unfold no3; omega)⟩
            clear HN
            have s0 := (unhide HB).own.cell (i := 0) rfl
            have s1 := (unhide HB).own.cell (i := 1) rfl
            have r0 := (unhide HB).res.cell (i := 0) rfl
            have r1 := (unhide HB).res.cell (i := 1) rfl
            have rf := (unhide HB).res.frozen
            have HR := hide ((unhide HB).res2 (.slice (some ⟨g, 0, none⟩) m cap) (.slice (some ⟨f', 0, none⟩) (mf + 1) c'))
            have hn1 : ¬ w.heap.size = w.heap.size + 2 := by omega
            go_wp2
            have k0 := (unhide HR).2.1.cell (i := 0) rfl
            have k1 := (unhide HR).2.1.cell (i := 1) rfl
            refine bodyPost_ret (v := .tuple #[vBook (.slice (some ⟨g, 0, none⟩) m cap) (.slice (some ⟨f', 0, none⟩) (mf + 1) c'), .int .i64 0]) (by simp [results, Try.results65, go_sem, vBook, k0, k1]) rfl ?_
            show PAns _ _ _ _ _
            rw [unhide EDN]
            exact ⟨g, m, cap, f', mf + 1, c', _, rfl, unhide HBS k ((yi, ysh, yod, (YH.length : Int), YH), gh, YH.length), (unhide HR).2.2, keptOr (unhide HR).1⟩
          · rw [if_neg hk4] at EDN
            have d4 : (kd == 4) = false := by simpa using hk4
            clear QFW hk4
            have r0 := (unhide HB).res.cell (i := 0) rfl
            have r1 := (unhide HB).res.cell (i := 1) rfl
            have rf := (unhide HB).res.frozen
            have HR := hide ((unhide HB).res2 (.slice (some ⟨g, 0, none⟩) m cap) (.slice (some ⟨f, 0, none⟩) mf fcap))
            have hn1 : ¬ w.heap.size = w.heap.size + 2 := by omega
            go_wp2
            have k0 := (unhide HR).2.1.cell (i := 0) rfl
            have k1 := (unhide HR).2.1.cell (i := 1) rfl
            refine bodyPost_ret (v := .tuple #[vBook (.slice (some ⟨g, 0, none⟩) m cap) (.slice (some ⟨f, 0, none⟩) mf fcap), .int .i64 0]) (by simp [results, Try.results65, go_sem, vBook, k0, k1]) rfl ?_
            show PAns _ _ _ _ _
            rw [unhide EDN]
            exact ⟨g, m, cap, f, mf, fcap, _, rfl, unhide HBS k ((yi, ysh, yod, (YH.length : Int), YH), gh, YH.length), (unhide HR).2.2, keptOr (unhide HR).1⟩

end Go.Proofs.Ytdcbonfhakdhhaa
