/- Stacks that are drawn: l11DrawStack, DrawStackOk. Written by wip/mkds.py. No statement about the program stands here. -/
import Derived.Test.YtmnpeljgafmnpaaDsB3
import Derived.Deep.AppendLies
namespace Go.Proofs.Ytmnpeljgafmnpaa
open Go.RowKit

theorem recCells_snoc {α : Type} [Inhabited α] (n : Nat) (hn : 0 < n) (enc : α → Nat → Value) (L : List α) (x : α) : recCells n enc (L ++ [x]) = recCells n enc L ++ (List.range n).map (enc x) := by
  apply List.ext_getElem?
  intro q
  have hl : (L ++ [x]).length * n = L.length * n + n := by rw [List.length_append, List.length_singleton, Nat.add_mul, Nat.one_mul]
  by_cases h1 : q < L.length * n
  · rw [List.getElem?_append_left (by rw [recCells_length]; exact h1)]
    have hd : q / n < L.length := by rw [Nat.div_lt_iff_lt_mul hn]; exact h1
    simp only [recCells, List.getElem?_map, List.getElem?_range h1, List.getElem?_range (show q < (L ++ [x]).length * n by omega), Option.map_some]
    congr 2
    simp only [List.getD]
    rw [List.getElem?_append_left hd]
  · rw [List.getElem?_append_right (by rw [recCells_length]; omega), recCells_length]
    by_cases h2 : q < L.length * n + n
    · have hr : q - L.length * n < n := by omega
      have e : L.length * n + (q - L.length * n) = q := by omega
      have h3 := rec_place (i := L.length) hr
      rw [e] at h3
      simp only [recCells, List.getElem?_map, List.getElem?_range (show q < (L ++ [x]).length * n by omega), List.getElem?_range hr, Option.map_some, h3.1, h3.2]
      congr 2
      simp [List.getD]
    · rw [List.getElem?_eq_none (by rw [recCells_length]; omega), List.getElem?_eq_none (by simp; omega)]
def bx6 (b : BoxT) : List Value := [.string b.1, .int .i64 b.2.1, .int .i64 b.2.2.1, .bool b.2.2.2.1, .int .i64 b.2.2.2.2.1, .int .i64 b.2.2.2.2.2]
theorem bx6_eq (b : BoxT) : (List.range 6).map (eBox b) = bx6 b := rfl
/-- A list of boxes of the call's own. -/
def OBx (B : Nat) (w : World) (g m cap : Nat) (L : List BoxT) : Prop := w.ownsRow B 34 6 (.slice (some ⟨g, 0, none⟩) m cap) m (recCells 6 eBox L)
theorem OBx.len {B : Nat} {w : World} {g m cap : Nat} {L : List BoxT} (h : OBx B w g m cap L) : L.length = m := by
  have := h.1
  rw [recCells_length] at this
  omega
theorem OBx.parts {B : Nat} {w : World} {g m cap : Nat} {L : List BoxT} (h : OBx B w g m cap L) : B ≤ g ∧ g < w.heap.size ∧ m ≤ cap ∧ cap ≤ maxLen ∧ OwnV w g (recCells 6 eBox L) := by
  have h' := h
  rcases h'.2 with ⟨hv, _⟩ | ⟨g', cap', cur, hv, hg, hh, hc, hm, hs, ht⟩
  · cases hv
  · simp only [Value.slice.injEq, Option.some.injEq, Addr.mk.injEq, and_true, true_and] at hv
    obtain ⟨rfl, rfl⟩ := hv
    refine ⟨hg, (Array.getElem?_eq_some_iff.1 hh).1, hc, hm, cur, 34, hh, fun i hi => ?_⟩
    rw [recCells_length, h.len] at hi
    rw [← ht, List.getElem?_take, if_pos (by omega)]
    simp
theorem OBx.kept {B : Nat} {w w' : World} {g m cap : Nat} {L : List BoxT} {T : Nat → Prop} (h : OBx B w g m cap L) (hk : Kept T w w') (hg : ¬ T g) : OBx B w' g m cap L := by
  have hp := h.parts
  refine ⟨h.1, ?_⟩
  rcases h.2 with h2 | ⟨g', cap', cur, hv, hg', hh, r⟩
  · exact Or.inl h2
  · have hv' := hv
    simp only [Value.slice.injEq, Option.some.injEq, Addr.mk.injEq, and_true, true_and] at hv'
    obtain ⟨rfl, rfl⟩ := hv'
    exact Or.inr ⟨g, cap, cur, hv, hg', (hk.block g hp.2.1 hg).trans hh, r⟩
theorem OBx.below {B : Nat} {w w' : World} {g m cap : Nat} {L : List BoxT} (h : OBx B w g m cap L) (hb : Below w.heap.size w w') : OBx B w' g m cap L := h.kept (T := fun _ => False) (kept_of_below hb) (fun h => h)
theorem OBx.boxes {B : Nat} {w : World} {g m cap : Nat} {L : List BoxT} (h : OBx B w g m cap L) : RBox w (.slice (some ⟨g, 0, none⟩) m cap) L := by
  have hp := h.parts
  have hl := h.len
  subst hl
  exact OwnV.recsIn hp.2.2.2.2 hp.2.2.1 hp.2.2.2.1
theorem obx_nil (w : World) (B : Nat) (hB : B ≤ w.heap.size) : OBx B (w.alloc (.cells #[] 34)) w.heap.size 0 0 [] :=
  ⟨rfl, Or.inr ⟨w.heap.size, 0, #[], rfl, hB, Go.Deep.blk_alloc_new _ _, Nat.le_refl _, Nat.zero_le _, rfl, rfl⟩⟩
theorem wpList_appBox (w : World) {ops : Array Oper} {rest : List Oper} {o : Oper} {a : Act} {Q : Exit → Act → World → Prop} (hgd : o.guard = none) (s x : Operand)
    (ho : o.op = .call { callee := .builtin .append, args := #[s, x], argTypes := #[27, 27] })
    (B g m cap : Nat) (L : List BoxT) (hs : a.eval s = .slice (some ⟨g, 0, none⟩) m cap) (h : OBx B w g m cap L) (hB : B ≤ w.heap.size) (hm : m ≤ 1000) (G : Nat) (b : BoxT) (c : Nat) (hx : a.eval x = .slice (some ⟨G, 0, none⟩) 1 c) (hG : OwnV w G (bx6 b))
    (hK : ∀ g' cap' w', OBx B w' g' (m + 1) cap' (L ++ [b]) → Kept (fun k => k = g) w w' → (g' = g ∨ g' = w.heap.size) → wpList Try.prog ops Q rest (a.put o.dst (.slice (some ⟨g', 0, none⟩) (m + 1) cap')) w') : wpList Try.prog ops Q (o :: rest) a w := by
  obtain ⟨i0, hinf, hzz⟩ := Option.map_eq_some_iff.1 Try.infoBox
  simp only [Prod.mk.injEq] at hzz
  obtain ⟨hz0, hz1, hz2⟩ := hzz
  refine wpList_append_lies w hgd s x 27 ho B 34 i0 _ 6 56 Try.underlying27 hinf hz0 hz1 hz2 rfl (by decide) _ m (recCells 6 eBox L) hs h ⟨G, 0, none⟩ 1 c (bx6 b) hx rfl (fun j u hu => by
    have ha : (⟨G, 0, none⟩ : Addr).add j = ⟨G, j, none⟩ := by unfold Addr.add; split <;> simp_all
    rw [ha]
    exact hG.cell hu) (by simp [bx6, Value.oneCell']) (by omega) (by unfold maxLen; omega) (by omega) hB _ rfl ?_
  intro g' cap' w' h2 h3 h4 _
  refine hK g' cap' w' ?_ ⟨h3.os, h3.tape, h3.output, h3.size, fun k hk hn => h3.block k hk (by simp [Value.ownBlock]; exact hn)⟩ (h4.imp (fun e => by simpa [Value.ownBlock] using e.symm) id)
  unfold OBx
  rw [recCells_snoc 6 (by decide), bx6_eq]
  exact h2

set_option maxRecDepth 10000 in
set_option maxHeartbeats 6400000 in
theorem l11DrawStack_any (cb n : Nat) (v : Value) (w : World) (h : Cur w cb v n) (hn : n ≤ 1048576) :
    Calls Try.prog 39 #[.pointer (some ⟨cb, 0, none⟩)] w fun e w' => ∃ g m cap L, e = .returned (.slice (some ⟨g, 0, none⟩) m cap) ∧ OBx w.heap.size w' g m cap L ∧ m ≤ 30 ∧ Cur w' cb v n ∧ Kept (fun b => b = cb) w w' := by
  have hcl := h.lt
  have hA := Below.alloc1 w (.cells #[] 34)
  have HC := hide (h.below hA)
  have HK : Hid (Kept (fun b => b = cb ∨ w.heap.size ≤ b) w (w.alloc (.cells #[] 34))) := kept_of_below hA
  have HL := hide (obx_nil w w.heap.size (Nat.le_refl _))
  have HB := hide fun W (hW : Cur W cb v n) k h0 h1 => l1Below_any cb n v k W hW hn h0 h1
  have HQ := hide fun W (hW : Cur W cb v n) k h0 h1 => l1Once_any cb n v k W hW hn h0 h1
  have HD := hide fun W (hW : Cur W cb v n) => l11Draw_any cb n v W hW hn
  have HY := hide fun W (hW : Cur W cb v n) => l11DrawAny_any cb n v W hW hn
  clear h hA
  go_enter Try.func39, Try.ntmps39
  go_wp2_with fail
  refine (unhide HB _ (unhide HC) _ (by omega) (by omega)).mono ?_
  rintro e w1 ⟨x1, rfl, x1a, x1b, hc, hk⟩
  replace HC := hide hc
  replace HL := hide ((unhide HL).kept hk (by have := (unhide HL).parts.1; omega))
  replace HK := hide ((unhide HK).trans (hk.mono (fun _ _ h => Or.inl h)))
  clear hc hk
  go_wp2_with fail
  refine (unhide HB _ (unhide HC) _ (by omega) (by omega)).mono ?_
  rintro e w2 ⟨x2, rfl, x2a, x2b, hc, hk⟩
  replace HC := hide hc
  replace HL := hide ((unhide HL).kept hk (by have := (unhide HL).parts.1; omega))
  replace HK := hide ((unhide HK).trans (hk.mono (fun _ _ h => Or.inl h)))
  clear hc hk
  obtain ⟨i0, rfl⟩ : ∃ i : Nat, x2 = (i : Int) := ⟨x2.toNat, by omega⟩
  go_wp2
  go_loopg [3, 4, 5] i0 (fun gh ov wv iv wr => ∃ (i m g cap : Nat) (L : List BoxT) (wt : Int), i + m ≤ 5 ∧ gh = i ∧ iv = .int .i64 i ∧ wv = .int .i64 wt ∧ 1 ≤ wt ∧ wt ≤ 99 + 15 * (m : Int) ∧ ov = .slice (some ⟨g, 0, none⟩) m cap ∧ Hid (OBx w.heap.size wr g m cap L) ∧ Hid (Cur wr cb v n) ∧ Hid (Kept (fun b => b = cb ∨ w.heap.size ≤ b) w wr))
  case atStart => exact ⟨i0, 0, _, 0, [], _, by omega, rfl, rfl, rfl, by omega, by omega, rfl, unhide HL, unhide HC, unhide HK⟩
  case round =>
    clear HC HK HL x1a x1b x2a x2b
    obtain ⟨i, m, g, cap, L, wt, him, hgi, rfl, rfl, hw0, hw1, rfl, HL, HC, HK⟩ := hrel
    have hgi' := hgi.symm
    subst hgi'
    clear hgi
    by_cases hi : 0 < i
    · have hii : (0 : Int) < i := by omega
      have qi : IntKind.i64.wrap ((i : Int) - 1) = ((i - 1 : Nat) : Int) := by rw [IntKind.wrap_i64]; omega
      go_wp2_with fail
      refine (unhide HD _ (unhide HC)).mono ?_
      rintro e w3 ⟨s, wt0, cl, co, fr, to, rfl, hc, hk⟩
      have hgb := (unhide HL).parts.1
      replace HC := hide hc
      replace HL := hide ((unhide HL).kept hk (by omega))
      replace HK := hide ((unhide HK).trans (hk.mono (fun _ _ h => Or.inl h)))
      clear hc hk
      unfold vBox
      have hsw := (unhide HK).size
      have hcw := (unhide HC).lt
      have hlw := (unhide HL).parts.2.1
      have hA := Below.alloc1 w3 (.cells #[.string s, .int .i64 wt0, .int .i64 cl, .bool co, .int .i64 fr, .int .i64 to] 34)
      have HX := hide (ownV_alloc w3 #[.string s, .int .i64 wt0, .int .i64 cl, .bool co, .int .i64 fr, .int .i64 to] 34)
      replace HC := hide ((unhide HC).below hA)
      replace HL := hide ((unhide HL).below hA)
      replace HK := hide ((unhide HK).trans (kept_of_below hA))
      clear hA
      go_wp2_with fail
      refine (unhide HQ _ (unhide HC) _ (by omega) (by omega)).mono ?_
      rintro e w4 ⟨q4, rfl, hc, hk⟩
      replace HC := hide hc
      replace HL := hide ((unhide HL).kept hk (by have := (unhide HL).parts.1; omega))
      replace HX := hide ((unhide HX).kept hk (by omega))
      replace HK := hide ((unhide HK).trans (hk.mono (fun _ _ h => Or.inl h)))
      clear hc hk
      have kc := (unhide HX).cell (i := 3) rfl
      have kf := (unhide HX).frozen 3
      have hS := (Kept.refl (fun b => b = w3.heap.size) w4).setCell (p := ⟨w3.heap.size, 3, none⟩) rfl (.bool q4)
      have HX2 := hide ((unhide HX).set 3 (.bool q4) (by simp))
      have HL2 := hide ((unhide HL).kept hS (by omega))
      have HC2 := hide ((unhide HC).kept hS (fun b h => by omega))
      have HK2 := hide ((unhide HK).setCell (p := ⟨w3.heap.size, 3, none⟩) (Or.inr (by omega)) (.bool q4))
      generalize hV : w4.setCell ⟨w3.heap.size, 3, none⟩ (.bool q4) = V1 at HX2 HL2 HC2 HK2
      clear hS HX HL HC HK
      simp only [List.set_cons_zero, List.set_cons_succ] at HX2
      have HX := HX2
      have HL := HL2
      have HC := HC2
      have HK := HK2
      clear HX2 HL2 HC2 HK2
      go_wp2_with fail
      clear hV kc kf
      refine (unhide HB _ (unhide HC) _ (by omega) (by omega)).mono ?_
      rintro e w5 ⟨y5, rfl, y5a, y5b, hc, hk⟩
      replace HC := hide hc
      replace HL := hide ((unhide HL).kept hk (by have := (unhide HL).parts.1; omega))
      replace HX := hide ((unhide HX).kept hk (by omega))
      replace HK := hide ((unhide HK).trans (hk.mono (fun _ _ h => Or.inl h)))
      clear hc hk
      go_wp2_with fail
      refine (unhide HB _ (unhide HC) _ (by omega) (by omega)).mono ?_
      rintro e w6 ⟨y6, rfl, y6a, y6b, hc, hk⟩
      replace HC := hide hc
      replace HL := hide ((unhide HL).kept hk (by have := (unhide HL).parts.1; omega))
      replace HX := hide ((unhide HX).kept hk (by omega))
      replace HK := hide ((unhide HK).trans (hk.mono (fun _ _ h => Or.inl h)))
      clear hc hk
      obtain ⟨wt1, ew1⟩ : ∃ z : Int, z = wt - y5 + y6 / 19 * 15 := ⟨_, rfl⟩
      have p1 : IntKind.i64.wrap (wt - y5) = wt - y5 := by rw [IntKind.wrap_i64]; omega
      have p2 : IntKind.i64.wrap (y6 / 19 * 15) = y6 / 19 * 15 := by rw [IntKind.wrap_i64]; omega
      have p3 : IntKind.i64.wrap (wt - y5 + y6 / 19 * 15) = wt1 := by rw [IntKind.wrap_i64]; omega
      have p4 : wt - y5 + y6 / 19 * 15 = wt1 := ew1.symm
      have hwb : -7 ≤ wt1 ∧ wt1 ≤ 99 + 15 * (m : Int) + 15 := by omega
      obtain ⟨wt2, hwa, hwc, hwd⟩ : ∃ z : Int, 1 ≤ z ∧ z ≤ 99 + 15 * (m : Int) + 15 ∧ z = if wt1 < 1 then 1 else wt1 := ⟨_, by split <;> omega, by split <;> omega, rfl⟩
      have HWD := hide hwd
      clear ew1 hwd
      have HXs := HX
      have hclamp : (wt1 < 1 ∧ wt2 = 1) ∨ (¬ wt1 < 1 ∧ wt2 = wt1) := by
        have := unhide HWD
        by_cases h : wt1 < 1
        · rw [if_pos h] at this; exact Or.inl ⟨h, this⟩
        · rw [if_neg h] at this; exact Or.inr ⟨h, this⟩
      clear HWD HXs
      have kc := (unhide HX).cell (i := 1) rfl
      have kf := (unhide HX).frozen 1
      have hS := (Kept.refl (fun b => b = w3.heap.size) w6).setCell (p := ⟨w3.heap.size, 1, none⟩) rfl (.int .i64 wt2)
      have HX2 := hide ((unhide HX).set 1 (.int .i64 wt2) (by simp))
      have HL2 := hide ((unhide HL).kept hS (by omega))
      have HC2 := hide ((unhide HC).kept hS (fun b h => by omega))
      have HK2 := hide ((unhide HK).setCell (p := ⟨w3.heap.size, 1, none⟩) (Or.inr (by omega)) (.int .i64 wt2))
      generalize hV : w6.setCell ⟨w3.heap.size, 1, none⟩ (.int .i64 wt2) = V2 at HX2 HL2 HC2 HK2
      clear hS HX HL HC HK
      simp only [List.set_cons_zero, List.set_cons_succ] at HX2
      have HX := HX2
      have HL := HL2
      have HC := HC2
      have HK := HK2
      clear HX2 HL2 HC2 HK2
      have e0 := (unhide HX).cell (i := 0) rfl
      have e1 := (unhide HX).cell (i := 1) rfl
      have e2 := (unhide HX).cell (i := 2) rfl
      have e3 := (unhide HX).cell (i := 3) rfl
      have e4 := (unhide HX).cell (i := 4) rfl
      have e5 := (unhide HX).cell (i := 5) rfl
      have hA := Below.alloc1 V2 (.cells #[.string s, .int .i64 wt2, .int .i64 cl, .bool q4, .int .i64 fr, .int .i64 to] 34)
      have HGa : Hid (OwnV (V2.alloc (.cells #[.string s, .int .i64 wt2, .int .i64 cl, .bool q4, .int .i64 fr, .int .i64 to] 34)) V2.heap.size (bx6 (s, wt2, cl, q4, fr, to))) := ownV_alloc V2 #[.string s, .int .i64 wt2, .int .i64 cl, .bool q4, .int .i64 fr, .int .i64 to] 34
      have HCa := hide ((unhide HC).below hA)
      have HLa := hide ((unhide HL).below hA)
      have HKa := hide ((unhide HK).trans (kept_of_below hA))
      clear hA HC HL HK
      rcases hclamp with ⟨hcl1, hcl2⟩ | ⟨hcl1, hcl2⟩
      all_goals
        subst hcl2
        go_wp2_with (at_builtin; go_must (refine wpList_appBox _ rfl _ _ rfl w.heap.size g m cap L rfl (unhide HLa) (unhide HKa).size (by omega) V2.heap.size (s, _, cl, q4, fr, to) 1 rfl (unhide HGa) ?_); intro g1 cap1 w9 hL hK hat; have HL1 := hide hL; have HC1 := hide ((unhide HCa).kept hK (fun b h => by omega)); have HK1 := hide ((unhide HKa).trans (hK.mono (fun b _ h => Or.inr (by omega)))); clear hL hK hat HLa HCa HKa HGa)
        go_roundg (i - 1)
        case measure => omega
        case rel => exact ⟨i - 1, m + 1, g1, cap1, _, _, by omega, rfl, by go_num, rfl, hwa, by omega, rfl, unhide HL1, unhide HC1, unhide HK1⟩
    · have hii : ¬ (0 : Int) < i := by omega
      have hm5 : m ≤ 5 := by omega
      clear him hi hw0 hw1
      go_wp2_with fail
      refine (unhide HB _ (unhide HC) _ (by omega) (by omega)).mono ?_
      rintro e w5 ⟨x5, rfl, x5a, x5b, hc, hk⟩
      replace HC := hide hc
      replace HL := hide ((unhide HL).kept hk (by have := (unhide HL).parts.1; omega))
      replace HK := hide ((unhide HK).trans (hk.mono (fun _ _ h => Or.inl h)))
      clear hc hk
      have hxx : x5 = 0 ∨ x5 = 1 ∨ 1 < x5 := by omega
      rcases hxx with rfl | rfl | hx
      · go_wp2_with fail
        refine (unhide HY _ (unhide HC)).mono ?_
        rintro e w6 ⟨s, wt, cl, co, fr, to, rfl, hc, hk⟩
        have hgb := (unhide HL).parts.1
        replace HC := hide hc
        replace HL := hide ((unhide HL).kept hk (by omega))
        replace HK := hide ((unhide HK).trans (hk.mono (fun _ _ h => Or.inl h)))
        clear hc hk HY HD HB HQ
        unfold vBox
        have hA := Below.alloc1 w6 (.cells #[.string s, .int .i64 wt, .int .i64 cl, .bool co, .int .i64 fr, .int .i64 to] 34)
        have HGa : Hid (OwnV (w6.alloc (.cells #[.string s, .int .i64 wt, .int .i64 cl, .bool co, .int .i64 fr, .int .i64 to] 34)) w6.heap.size (bx6 (s, wt, cl, co, fr, to))) := ownV_alloc w6 #[.string s, .int .i64 wt, .int .i64 cl, .bool co, .int .i64 fr, .int .i64 to] 34
        have HCa := hide ((unhide HC).below hA)
        have HLa := hide ((unhide HL).below hA)
        have HKa := hide ((unhide HK).trans (kept_of_below hA))
        clear hA HC HL HK
        go_wp2_with (at_builtin; go_must (refine wpList_appBox _ rfl _ _ rfl w.heap.size g m cap L rfl (unhide HLa) (unhide HKa).size (by omega) w6.heap.size (s, wt, cl, co, fr, to) 1 rfl (unhide HGa) ?_); intro g1 cap1 w9 hL hK hat; have HL1 := hide hL; have HC1 := hide ((unhide HCa).kept hK (fun b h => by omega)); have HK1 := hide ((unhide HKa).trans (hK.mono (fun b _ h => Or.inr (by omega)))); clear hL hK hat HLa HCa HKa HGa)
        go_ret
        exact ⟨g1, m + 1, cap1, _, rfl, unhide HL1, by omega, unhide HC1, (unhide HK1).mono (fun b hb h => h.resolve_right (by omega))⟩
      · go_wp2
        go_loopg [3] (40 - m) (fun gh ov wr => ∃ (m g cap : Nat) (L : List BoxT), m ≤ 21 ∧ gh = 40 - m ∧ ov = .slice (some ⟨g, 0, none⟩) m cap ∧ Hid (OBx w.heap.size wr g m cap L) ∧ Hid (Cur wr cb v n) ∧ Hid (Kept (fun b => b = cb ∨ w.heap.size ≤ b) w wr))
        case atStart => exact ⟨m, g, cap, L, by omega, rfl, rfl, unhide HL, unhide HC, unhide HK⟩
        case round =>
          clear HC HK HL hm5
          obtain ⟨m, g, cap, L, hm21, rfl, rfl, HL, HC, HK⟩ := hrel
          have hcap : m ≤ 9223372036854775807 := by omega
          go_wp2_with fail
          refine (unhide HB _ (unhide HC) _ (by omega) (by omega)).mono ?_
          rintro e w7 ⟨x7, rfl, x7a, x7b, hc, hk⟩
          replace HC := hide hc
          replace HL := hide ((unhide HL).kept hk (by have := (unhide HL).parts.1; omega))
          replace HK := hide ((unhide HK).trans (hk.mono (fun _ _ h => Or.inl h)))
          clear hc hk
          by_cases hlt : (m : Int) < 20 + x7
          · have q7 : IntKind.i64.wrap (20 + x7) = 20 + x7 := by rw [IntKind.wrap_i64]; omega
            go_wp2_with fail
            refine (unhide HD _ (unhide HC)).mono ?_
            rintro e w8 ⟨s, wt0, cl, co, fr, to, rfl, hc, hk⟩
            have hgb := (unhide HL).parts.1
            replace HC := hide hc
            replace HL := hide ((unhide HL).kept hk (by omega))
            replace HK := hide ((unhide HK).trans (hk.mono (fun _ _ h => Or.inl h)))
            clear hc hk
            unfold vBox
            have hsw := (unhide HK).size
            have hcw := (unhide HC).lt
            have hlw := (unhide HL).parts.2.1
            have hA := Below.alloc1 w8 (.cells #[.string s, .int .i64 wt0, .int .i64 cl, .bool co, .int .i64 fr, .int .i64 to] 34)
            have HX := hide (ownV_alloc w8 #[.string s, .int .i64 wt0, .int .i64 cl, .bool co, .int .i64 fr, .int .i64 to] 34)
            replace HC := hide ((unhide HC).below hA)
            replace HL := hide ((unhide HL).below hA)
            replace HK := hide ((unhide HK).trans (kept_of_below hA))
            clear hA
            have HU := HX
            clear HU
            have kc := (unhide HX).cell (i := 1) rfl
            have kf := (unhide HX).frozen 1
            have hS := (Kept.refl (fun b => b = w8.heap.size) (w8.alloc (.cells #[.string s, .int .i64 wt0, .int .i64 cl, .bool co, .int .i64 fr, .int .i64 to] 34))).setCell (p := ⟨w8.heap.size, 1, none⟩) rfl (.int .i64 1)
            have HX2 := hide ((unhide HX).set 1 (.int .i64 1) (by simp))
            have HL2 := hide ((unhide HL).kept hS (by omega))
            have HC2 := hide ((unhide HC).kept hS (fun b h => by omega))
            have HK2 := hide ((unhide HK).setCell (p := ⟨w8.heap.size, 1, none⟩) (Or.inr (by omega)) (.int .i64 1))
            generalize hV : (w8.alloc (.cells #[.string s, .int .i64 wt0, .int .i64 cl, .bool co, .int .i64 fr, .int .i64 to] 34)).setCell ⟨w8.heap.size, 1, none⟩ (.int .i64 1) = V1 at HX2 HL2 HC2 HK2
            clear hS HX HL HC HK
            simp only [List.set_cons_zero, List.set_cons_succ] at HX2
            have HX := HX2
            have HL := HL2
            have HC := HC2
            have HK := HK2
            clear HX2 HL2 HC2 HK2
            have hV1 := hV
            clear hV
            have kc1 := kc
            have kf1 := kf
            clear kc kf
            have kc := (unhide HX).cell (i := 3) rfl
            have kf := (unhide HX).frozen 3
            have hS := (Kept.refl (fun b => b = w8.heap.size) V1).setCell (p := ⟨w8.heap.size, 3, none⟩) rfl (.bool false)
            have HX2 := hide ((unhide HX).set 3 (.bool false) (by simp))
            have HL2 := hide ((unhide HL).kept hS (by omega))
            have HC2 := hide ((unhide HC).kept hS (fun b h => by omega))
            have HK2 := hide ((unhide HK).setCell (p := ⟨w8.heap.size, 3, none⟩) (Or.inr (by omega)) (.bool false))
            generalize hV : V1.setCell ⟨w8.heap.size, 3, none⟩ (.bool false) = V2 at HX2 HL2 HC2 HK2
            clear hS HX HL HC HK
            simp only [List.set_cons_zero, List.set_cons_succ] at HX2
            have HX := HX2
            have HL := HL2
            have HC := HC2
            have HK := HK2
            clear HX2 HL2 HC2 HK2
            have e0 := (unhide HX).cell (i := 0) rfl
            have e1 := (unhide HX).cell (i := 1) rfl
            have e2 := (unhide HX).cell (i := 2) rfl
            have e3 := (unhide HX).cell (i := 3) rfl
            have e4 := (unhide HX).cell (i := 4) rfl
            have e5 := (unhide HX).cell (i := 5) rfl
            have hA := Below.alloc1 V2 (.cells #[.string s, .int .i64 1, .int .i64 cl, .bool false, .int .i64 fr, .int .i64 to] 34)
            have HGa : Hid (OwnV (V2.alloc (.cells #[.string s, .int .i64 1, .int .i64 cl, .bool false, .int .i64 fr, .int .i64 to] 34)) V2.heap.size (bx6 (s, 1, cl, false, fr, to))) := ownV_alloc V2 #[.string s, .int .i64 1, .int .i64 cl, .bool false, .int .i64 fr, .int .i64 to] 34
            have HCa := hide ((unhide HC).below hA)
            have HLa := hide ((unhide HL).below hA)
            have HKa := hide ((unhide HK).trans (kept_of_below hA))
            clear hA HC HL HK
            go_wp2_with (at_builtin; go_must (refine wpList_appBox _ rfl _ _ rfl w.heap.size g m cap L rfl (unhide HLa) (unhide HKa).size (by omega) V2.heap.size (s, 1, cl, false, fr, to) 1 rfl (unhide HGa) ?_); intro g1 cap1 w9 hL hK hat; have HL1 := hide hL; have HC1 := hide ((unhide HCa).kept hK (fun b h => by omega)); have HK1 := hide ((unhide HKa).trans (hK.mono (fun b _ h => Or.inr (by omega)))); clear hL hK hat HLa HCa HKa HGa)
            go_roundg (40 - (m + 1))
            case measure => omega
            case rel => exact ⟨m + 1, g1, cap1, _, by omega, rfl, rfl, unhide HL1, unhide HC1, unhide HK1⟩
          · have q7 : IntKind.i64.wrap (20 + x7) = 20 + x7 := by rw [IntKind.wrap_i64]; omega
            go_wp2
            go_ret
            exact ⟨g, m, cap, L, rfl, unhide HL, by omega, unhide HC, (unhide HK).mono (fun b hb h => h.resolve_right (by omega))⟩
      · have t0 : (x5 == 0) = false := by simp; omega
        have t1 : (x5 == 1) = false := by simp; omega
        go_wp2
        go_ret
        exact ⟨g, m, cap, L, rfl, unhide HL, by omega, unhide HC, (unhide HK).mono (fun b hb h => h.resolve_right (by omega))⟩

end Go.Proofs.Ytmnpeljgafmnpaa
