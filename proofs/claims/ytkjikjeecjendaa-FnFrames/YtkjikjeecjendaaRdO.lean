/- Radios: lists that grow by append; a contract of the specification's l9Copy. -/
import Derived.Test.YtkjikjeecjendaaRdN
import Derived.Test.YtkjikjeecjendaaRdJ
import Derived.Test.YtkjikjeecjendaaTwoR
import Derived.Test.YtkjikjeecjendaaGrow
import Derived.Deep.DeepCutAuto
namespace Go.Proofs.Ytkjikjeecjendaa
open Go.RowKit

/-- An append of no element. -/
theorem run_append_zero {P : Program} (w : World) (t ty e : TypeId) (i : TypeInfo) (ht : P.underlying t = some (.slice e)) (hi : P.info? e = some i) (a : Addr) (n cap cap' : Nat) (ao : Option Addr) (hc : n ≤ cap) :
    (Builtin.append_ #[t, t] ty #[.slice (some a) n cap, .slice ao 0 cap']).run P w = .ok (.slice (some a) n cap) w := by
  cases ao with
  | none => simp [Builtin.append_, run_underlying ht, sizeOf, typeInfo, hi, Builtin.lenOf, Builtin.firstCells, hc, storeCells]
  | some b => simp [Builtin.append_, run_underlying ht, sizeOf, typeInfo, hi, Builtin.lenOf, Builtin.firstCells, hc, storeCells, loadCells, loadCellsFrom]

/-- An append of any number of elements to a new, empty row of the call's own: a row of the call's own. -/
theorem wpList_append_whole {P : Program} {ops : Array Oper} {rest : List Oper} {o : Oper} {a : Act} {Q : Exit → Act → World → Prop} {w : World} (hgd : o.guard = none) (s x : Operand) (t : TypeId)
    (ho : o.op = .call { callee := .builtin .append, args := #[s, x], argTypes := #[t, t] })
    (base : Nat) (e : TypeId) (i : TypeInfo) (z : Value) (size bytes : Nat) (ht : P.underlying t = some (.slice e)) (hi : P.info? e = some i) (hz : i.zero = some z)
    (hsize : i.size = size) (hby : i.bytes = bytes) (hzs : z.cells.size = size) (hsz : 0 < size)
    (g : Nat) (hs : a.eval s = .slice (some ⟨g, 0, none⟩) 0 0) (hown : w.ownsRow base e size (.slice (some ⟨g, 0, none⟩) 0 0) 0 [])
    (ao : Option Addr) (m c : Nat) (news : List Value) (hx : a.eval x = .slice ao m c) (hl : news.length = m * size) (hnews : m ≠ 0 → ∃ ad, ao = some ad ∧ ∀ j u, news[j]? = some u → w.cell? (ad.add j) = some u) (h1 : ∀ u ∈ news, u.oneCell' = true)
    (h63 : m ≤ maxLen) (hbytes : m * bytes ≤ 140737488355328) (hbase : base ≤ w.heap.size)
    (h : ∀ g' cap w', w'.ownsRow base e size (.slice (some ⟨g', 0, none⟩) m cap) m news → w.grownBy w' (some g) → (g' = g ∨ g' = w.heap.size) → wpList P ops Q rest (a.put o.dst (.slice (some ⟨g', 0, none⟩) m cap)) w') : wpList P ops Q (o :: rest) a w := by
  by_cases hm : m = 0
  · subst hm
    have hn : news = [] := List.length_eq_zero_iff.1 (by omega)
    subst hn
    refine wpList_plain hgd fun K hK => ?_
    have hrun := run_append_zero (P := P) w t o.type e i ht hi ⟨g, 0, none⟩ 0 0 c ao (Nat.le_refl _)
    unfold Oper.wp
    simp [execOp, ho, resolve, invoke, builtin, hs, hx, hrun, Result.andThen]
    exact hK _ _ (h g 0 w hown ⟨rfl, rfl, rfl, Nat.le_refl _, fun _ _ _ => rfl⟩ (Or.inl rfl))
  · obtain ⟨ad, rfl, hn⟩ := hnews hm
    refine wpList_append_lies w hgd s x t ho base e i z size bytes ht hi hz hsize hby hzs hsz _ 0 [] hs hown ad m c news hx hl hn h1 (by omega) (by omega) (by rw [Nat.zero_add]; exact hbytes) hbase _ rfl ?_
    intro g' cap w' ho' hg hat _
    rw [Nat.zero_add, List.nil_append] at ho'
    rw [Nat.zero_add]
    refine h g' cap w' ho' hg ?_
    rcases hat with e | e
    · exact Or.inl (by simpa [Value.ownBlock] using e.symm)
    · exact Or.inr e

theorem IntsIn.of_block {w w2 : World} {g n c : Nat} {H : List Int} (h : IntsIn w (.slice (some ⟨g, 0, none⟩) n c) H) (e : w2.heap[g]? = w.heap[g]?) : IntsIn w2 (.slice (some ⟨g, 0, none⟩) n c) H := by
  obtain ⟨ao, cap, e1, h1, h2, h3⟩ := h
  refine ⟨ao, cap, e1, h1, h2, fun i hi => ?_⟩
  obtain ⟨b, o, e2, hc⟩ := h3 i hi
  simp only [Value.slice.injEq] at e1
  obtain ⟨rfl, rfl, rfl⟩ := e1
  simp only [Option.some.injEq, Addr.mk.injEq, and_true] at e2
  obtain ⟨rfl, rfl⟩ := e2
  exact ⟨g, 0, rfl, (World.cell?_of_block (w := w) (a := ⟨g, 0 + i, none⟩) e).trans hc⟩

/-- The slice value ov owns the radios' cells; the places of each lie in a block beside it. -/
def GrowR (base : Nat) (w : World) (ov : Value) (L : List Rad) : Prop :=
  ∃ vals, w.ownsRow base 45 3 ov L.length vals ∧ vals.length = L.length * 3 ∧ ∀ r, r < L.length → vals[r * 3]? = some (.int .i64 (L.getD r default).1) ∧ vals[r * 3 + 1]? = some (.int .i64 (L.getD r default).2.1) ∧
    ∃ g cap, vals[r * 3 + 2]? = some (.slice (some ⟨g, 0, none⟩) (L.getD r default).2.2.length cap) ∧ IntsIn w (.slice (some ⟨g, 0, none⟩) (L.getD r default).2.2.length cap) (L.getD r default).2.2 ∧ base ≤ g ∧ g < w.heap.size ∧ ov.ownBlock ≠ some g
theorem GrowR.below {base : Nat} {w w' : World} {ov : Value} {L : List Rad} (h : GrowR base w ov L) (hb : Below w.heap.size w w') : GrowR base w' ov L := by
  obtain ⟨vals, ho, hl, hr⟩ := h
  refine ⟨vals, ownsRow_below ho hb, hl, fun r hlt => ?_⟩
  obtain ⟨h0, h1, g, cap, h2, h3, h4, h5, h6⟩ := hr r hlt
  exact ⟨h0, h1, g, cap, h2, h3.below hb, h4, Nat.lt_of_lt_of_le h5 hb.size, h6⟩
theorem GrowR.inn {base : Nat} {w : World} {ov : Value} {L : List Rad} (h : GrowR base w ov L) : RadsIn w ov L := by
  obtain ⟨vals, ⟨h1, h2⟩, hl, hr⟩ := h
  rcases h2 with ⟨rfl, h0⟩ | ⟨g, cap, cur, rfl, hg, hh, hc, hm, hs, ht⟩
  · have : L = [] := List.length_eq_zero_iff.1 h0
    subst this
    exact radsIn_nil
  · refine ⟨_, cap, rfl, hc, hm, fun r hlt => ?_⟩
    obtain ⟨e0, e1, gr, capr, e2, e3, -, -, -⟩ := hr r hlt
    have cell : ∀ j u, j < L.length * 3 → vals[j]? = some u → w.cell? ⟨g, 0 + j, none⟩ = some u := fun j u hj hu => by
      rw [← ht, List.getElem?_take, if_pos (by omega)] at hu
      rw [Nat.zero_add]
      simp only [Array.getElem?_toList] at hu
      simp [World.cell?, hh, hu]
    exact ⟨g, 0, _, _, rfl, cell _ _ (by omega) e0, by rw [Nat.add_assoc]; exact cell _ _ (by omega) e1, by rw [Nat.add_assoc]; exact cell _ _ (by omega) e2, e3⟩
theorem GrowR.push {base : Nat} {w w1 w2 : World} {ov : Value} {L : List Rad} {id sl : Int} {H : List Int} {g cap g' cap' Hs : Nat} {vals : List Value}
    (hvl : vals.length = L.length * 3) (hr : ∀ r, r < L.length → vals[r * 3]? = some (.int .i64 (L.getD r default).1) ∧ vals[r * 3 + 1]? = some (.int .i64 (L.getD r default).2.1) ∧
    ∃ g cap, vals[r * 3 + 2]? = some (.slice (some ⟨g, 0, none⟩) (L.getD r default).2.2.length cap) ∧ IntsIn w (.slice (some ⟨g, 0, none⟩) (L.getD r default).2.2.length cap) (L.getD r default).2.2 ∧ base ≤ g ∧ g < w.heap.size ∧ ov.ownBlock ≠ some g)
    (hb : Below w.heap.size w w1) (hI : IntsIn w (.slice (some ⟨g, 0, none⟩) H.length cap) H) (hg : base ≤ g) (hgl : g < w.heap.size) (hne : ov.ownBlock ≠ some g) (hH : w.heap.size ≤ Hs)
    (hown : w2.ownsRow base 45 3 (.slice (some ⟨g', 0, none⟩) (L.length + 1) cap') (L.length + 1) (vals ++ [.int .i64 id, .int .i64 sl, .slice (some ⟨g, 0, none⟩) H.length cap])) (hgrow : w1.grownBy w2 ov.ownBlock) (hat : ov.ownBlock = some g' ∨ g' = Hs) :
    GrowR base w2 (.slice (some ⟨g', 0, none⟩) (L.length + 1) cap') (L ++ [(id, sl, H)]) := by
  have far : ∀ x, x < w.heap.size → ov.ownBlock ≠ some x → (Value.slice (some ⟨g', 0, none⟩) (L.length + 1) cap').ownBlock ≠ some x ∧ w2.heap[x]? = w.heap[x]? ∧ x < w2.heap.size := fun x hx hnx => by
    refine ⟨fun e => ?_, ?_, Nat.lt_of_lt_of_le hx (Nat.le_trans hb.size hgrow.size)⟩
    · have e' : g' = x := by simpa [Value.ownBlock] using e
      subst e'
      rcases hat with h | h
      · exact hnx h
      · omega
    · rw [hgrow.block x (Nat.lt_of_lt_of_le hx hb.size) (fun e => hnx e.symm), hb.block x hx]
  refine ⟨_, by rw [List.length_append]; exact hown, by simp [hvl]; omega, fun r hlt => ?_⟩
  rw [List.length_append] at hlt
  simp only [List.length_cons, List.length_nil, Nat.zero_add] at hlt
  rw [getD_snoc]
  by_cases h : r < L.length
  · rw [if_pos h]
    obtain ⟨h0, h1, g1, cap1, h2, h3, h4, h5, h6⟩ := hr r h
    obtain ⟨f1, f2, f3⟩ := far g1 h5 h6
    exact ⟨by rw [List.getElem?_append_left (by omega)]; exact h0, by rw [List.getElem?_append_left (by omega)]; exact h1, g1, cap1, by rw [List.getElem?_append_left (by omega)]; exact h2, h3.of_block f2, h4, f3, f1⟩
  · rw [if_neg h, if_pos (by omega)]
    have er : r = L.length := by omega
    obtain ⟨f1, f2, f3⟩ := far g hgl hne
    refine ⟨by rw [List.getElem?_append_right (by omega)]; simp [show r * 3 - vals.length = 0 by omega], by rw [List.getElem?_append_right (by omega)]; simp [show r * 3 + 1 - vals.length = 1 by omega], g, cap, by rw [List.getElem?_append_right (by omega)]; simp [show r * 3 + 2 - vals.length = 2 by omega], hI.of_block f2, hg, f3, f1⟩
theorem rec3_one (a b : Int) (x : Option Addr) (n c : Nat) : ∀ u ∈ ([.int .i64 a, .int .i64 b, .slice x n c] : List Value), u.oneCell' = true := by simp [Value.oneCell']
theorem rec3_cell (w : World) (a b : Int) (x : Option Addr) (n c : Nat) (t : TypeId) : ∀ j u, ([.int .i64 a, .int .i64 b, .slice x n c] : List Value)[j]? = some u → (w.alloc (.cells #[.int .i64 a, .int .i64 b, .slice x n c] t)).cell? ((⟨w.heap.size, 0, none⟩ : Addr).add j) = some u := by
  intro j u hj
  match j, hj with
  | 0, hj => simp at hj; simp [Addr.add, hj]
  | 1, hj => simp at hj; simp [Addr.add, hj]
  | 2, hj => simp at hj; simp [Addr.add, hj]
  | j + 3, hj => simp at hj

set_option maxRecDepth 10000 in
set_option maxHeartbeats 3200000 in
theorem l9Copy_any (v : Value) (L : List Rad) (w : World) (h : RadsIn w v L) (hs : L.length ≤ 1048576) (hl : ∀ i, i < L.length → (L.getD i default).2.2.length ≤ 1048576) :
    Calls Try.prog 77 #[v] w fun e w' => ∃ a n cp, e = .returned (.slice a n cp) ∧ GrowR w.heap.size w' (.slice a n cp) L ∧ Below w.heap.size w w' := by
  obtain ⟨i0, hinf, hzz⟩ := Option.map_eq_some_iff.1 Try.infoIntCp
  simp only [Prod.mk.injEq] at hzz
  obtain ⟨hz0, hz1, hz2⟩ := hzz
  obtain ⟨i1, hinf', hyy⟩ := Option.map_eq_some_iff.1 Try.infoRadio
  simp only [Prod.mk.injEq] at hyy
  obtain ⟨hy0, hy1, hy2⟩ := hyy
  obtain ⟨ao, cap, rfl, hlc, hm, hc⟩ := h
  unfold maxLen at hm
  have HC := hide hc
  have HL := hide hl
  clear hc hl
  have HM0 := hide (World.ownsRow_made (base := w.heap.size) (e := 45) (size := 3) w #[] 0 (Nat.le_refl _) (Nat.zero_le _) (by simp))
  have HB0 := hide (Below.alloc1 w (.cells #[] 45))
  go_enter Try.func77, Try.ntmps77
  go_wp2
  go_loopg [3, 4] L.length (fun gg ov iv wr => ∃ i : Nat, i ≤ L.length ∧ gg = L.length - i ∧ iv = .int .i64 i ∧ Below w.heap.size w wr ∧ (∃ a n cp, ov = .slice a n cp) ∧ Hid (GrowR w.heap.size wr ov (L.take i)))
  case atStart => exact ⟨0, Nat.zero_le _, rfl, rfl, unhide HB0, ⟨_, _, _, rfl⟩, ⟨[], unhide HM0, rfl, fun r hr => by simp at hr⟩⟩
  case round =>
    obtain ⟨i, hi, rfl, rfl, hW, ⟨a, n, cp, rfl⟩, HR⟩ := hrel
    clear HB0 HM0
    by_cases hin : i < L.length
    · have hil := unhide HL i hin
      obtain ⟨b, o, na, nc, id, sl, H, m, rfl, hc0, hc1, hc2, hr, EX, EM, hm0⟩ := radAt (unhide HC) hin
      rw [unhide EX] at hil
      have hmH : m ≤ 1048576 := by rw [← unhide EM]; exact hil
      have g0 := wcell3 hc0 hW
      have g1 := wcell3 hc1 hW
      have g2 := wcell3 hc2 hW
      have hii : (i : Int) < L.length := by omega
      have ETK : Hid (L.take (i + 1) = L.take i ++ [(id, sl, H)]) := by show _ = _; rw [List.take_add_one, List.getElem?_eq_getElem hin, ← getD_lt (d := default) hin, unhide EX]; rfl
      have hTl : (L.take i).length = i := by rw [List.length_take]; omega
      have hOX := ownV_alloc wr #[.int .i64 id, .int .i64 sl, .slice na m nc] 45
      have hA := Below.alloc1 wr (.cells #[.int .i64 id, .int .i64 sl, .slice na m nc] 45)
      obtain ⟨V, hV⟩ : ∃ V, wr.alloc (.cells #[.int .i64 id, .int .i64 sl, .slice na m nc] 45) = V := ⟨_, rfl⟩
      rw [hV] at hOX hA
      have hVs : wr.heap.size < V.heap.size := hOX.lt
      obtain ⟨W3, hW3⟩ : ∃ W, V.alloc (.cells #[] 3) = W := ⟨_, rfl⟩
      have hB3 := Below.alloc1 V (.cells #[] 3)
      have HM3 := hide (World.ownsRow_made (base := V.heap.size) (e := 3) (size := 1) V #[] 0 (Nat.le_refl _) (Nat.zero_le _) (by simp))
      rw [hW3] at hB3 HM3
      have hW3s : V.heap.size < W3.heap.size := by rw [← hW3]; simp
      have c2 := (hOX.step hB3).cell (i := 2) rfl
      have HSR := hide (ints_src ((hr.below hW).below (Below.step hA hB3)))
      have HOX := hide hOX
      have HA := hide hA
      have HB3 := hide hB3
      have HW := hide hW
      have hsz := hW.size
      clear hc0 hc1 hc2 hr hW hOX hA hB3
      go_upto_region 7 with (at_builtin; first
        | (refine wpList_append_whole rfl _ _ 34 rfl V.heap.size 3 i0 _ 1 8 Try.underlying34 hinf hz0 hz1 hz2 rfl (by decide) V.heap.size rfl (unhide HM3) na m nc (ints H) rfl (by rw [ints_length, unhide EM, Nat.mul_one]) (fun h => unhide HSR (by omega)) (fun u hu => by obtain ⟨x, _, rfl⟩ := List.mem_map.1 hu; rfl) (by unfold maxLen; omega) (by omega) (by omega) ?_
           intro g1 cap1 wa hown hgrow hat
           have hBa : Below V.heap.size V wa := (unhide HB3).grown hgrow (by omega) (fun g hg => by simp at hg; omega)
           have hOa := (unhide HOX).step hBa
           have e0 := hOa.cell (i := 0) rfl
           have e1 := hOa.cell (i := 1) rfl
           have e2 := hOa.cell (i := 2) rfl
           have ef := hOa.frozen 2
           have hI1 : IntsIn wa (.slice (some ⟨g1, 0, none⟩) m cap1) H := by
             obtain ⟨a', n', c', e', hsl⟩ := own_told1 hown rfl
             rw [e']
             exact hsl.intsIn
           have hg1 : V.heap.size ≤ g1 := by rcases hat with e | e <;> omega
           have hg1l : g1 < wa.heap.size := (hown.lt g1 rfl).2
           obtain ⟨wb, hwb⟩ : ∃ z, wa.setCell ⟨wr.heap.size, 2, none⟩ (.slice (some ⟨g1, 0, none⟩) m cap1) = z := ⟨_, rfl⟩
           have hOb := hOa.set 2 (.slice (some ⟨g1, 0, none⟩) m cap1) (by simp)
           rw [hwb] at hOb
           have k0 := hOb.cell (i := 0) rfl
           have k1 := hOb.cell (i := 1) rfl
           have k2 := hOb.cell (i := 2) rfl
           have hIb := hI1.of_block (w2 := wb) (by rw [← hwb]; exact Below.heap_setCell _ _ _ _ (by simp only; omega))
           have hwbs : wb.heap.size = wa.heap.size := by rw [← hwb]; simp [World.setCell]
           have hBW : Below wr.heap.size wr wb := by
             rw [← hwb]
             exact ((unhide HA).trans (hBa.mono (by omega))).setCell (p := ⟨wr.heap.size, 2, none⟩) (Nat.le_refl _) _
           obtain ⟨vals, hvo, hvl, hvr⟩ := (unhide HR).below hBW
           have hvo2 := ownsRow_below hvo (Below.alloc1 wb (.cells #[.int .i64 id, .int .i64 sl, .slice (some ⟨g1, 0, none⟩) m cap1] 45))
           rw [hTl] at hvo2
           have HVO2 := hide hvo2
           have hlow : ∀ k, (Value.slice a n cp).ownBlock = some k → w.heap.size ≤ k ∧ k < wr.heap.size := fun k hk => by
             obtain ⟨vs0, hv0, -, -⟩ := unhide HR
             exact hv0.lt k hk
           have HLOW := hide hlow
           have HIB := hide hIb
           have HVL := hide hvl
           have HVR := hide hvr
           have HBW := hide hBW
           have hg1b : g1 < wb.heap.size := by omega
           have hwrb : wr.heap.size ≤ wb.heap.size := hBW.size
           clear hwbs hg1l hown hgrow hat hBa hOa hOb hI1 hIb hvo hvo2 hvl hvr hlow hBW HM3 HSR HOX HA HB3 HR))
      go_wp2_with (at_builtin; first
        | (refine wpList_append_lies _ rfl _ _ 33 rfl w.heap.size 45 i1 _ 3 40 Try.underlying33 hinf' hy0 hy1 hy2 rfl (by decide) _ i vals rfl (unhide HVO2) ⟨wb.heap.size, 0, none⟩ 1 1 [.int .i64 id, .int .i64 sl, .slice (some ⟨g1, 0, none⟩) m cap1] rfl rfl (rec3_cell _ _ _ _ _ _ _) (rec3_one _ _ _ _ _) (by omega) (by unfold maxLen; omega) (by omega) (by simp; omega) _ rfl ?_
           intro g4 cap4 w2 hown hgrow hat hlt4
           have HW2 := hide ((Below.trans (unhide HW) (Below.mono (Below.step (unhide HBW) (Below.alloc1 wb (.cells #[.int .i64 id, .int .i64 sl, .slice (some ⟨g1, 0, none⟩) m cap1] 45))) hsz)).grown hgrow (by simp; omega) (fun g hg => (unhide HLOW g hg).1))
           have HOW := hide hown
           have HGR := hide hgrow
           have HAT := hide hat
           clear hown hgrow hat))
      have em := unhide EM
      subst em
      have HP : Hid (GrowR w.heap.size w2 (.slice (some ⟨g4, 0, none⟩) (i + 1) cap4) (L.take (i + 1))) := by
        show GrowR _ _ _ _
        rw [unhide ETK]
        have := GrowR.push (L := L.take i) (unhide HVL) (unhide HVR) (Below.alloc1 wb _) (unhide HIB) (by omega) hg1b (fun e => by have := (unhide HLOW g1 e).2; omega) (by simp) (by rw [hTl]; exact unhide HOW) (unhide HGR) (unhide HAT)
        rw [hTl] at this
        exact this
      go_roundg (L.length - (i + 1))
      case measure => omega
      case rel => exact ⟨i + 1, by omega, rfl, by go_num, unhide HW2, ⟨_, _, _, rfl⟩, HP⟩
    · have hii : i = L.length := by omega
      rw [hii, List.take_length] at HR
      have HW := hide hW
      clear hW
      go_wp2
      go_ret
      exact ⟨_, _, _, rfl, unhide HR, unhide HW⟩

end Go.Proofs.Ytkjikjeecjendaa
