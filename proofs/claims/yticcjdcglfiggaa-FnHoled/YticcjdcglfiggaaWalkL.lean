/- The contract of the specification's Strips2: the strips, in memory of its own. -/
import Derived.Test.YticcjdcglfiggaaWalkK
namespace Go.Proofs.Yticcjdcglfiggaa
open Go.RowKit

theorem ownsRow_below {w w' : World} {base n size : Nat} {e : TypeId} {v : Value} {xs : List Value} (h : w.ownsRow base e size v n xs) (hb : Below w.heap.size w w') : w'.ownsRow base e size v n xs := by
  obtain ⟨h1, h2⟩ := h
  refine ⟨h1, ?_⟩
  rcases h2 with h2 | ⟨g, cap, cur, hv, hg, hh, r⟩
  · exact Or.inl h2
  · obtain ⟨hlt, _⟩ := Array.getElem?_eq_some_iff.1 hh
    exact Or.inr ⟨g, cap, cur, hv, hg, (hb.block g hlt).trans hh, r⟩

theorem ownsRow_ownSl {w : World} {base : Nat} {e : TypeId} {v : Value} {n : Nat} {xs : List Int} (h : w.ownsRow base e 1 v n (ints xs)) : OwnSl base w v xs ∧ ∃ ao cap, v = .slice ao n cap := by
  obtain ⟨h1, h2⟩ := h
  have hn : xs.length = n := by rw [ints_length] at h1; omega
  subst hn
  rcases h2 with ⟨rfl, h0⟩ | ⟨g, cap, cur, rfl, hg, hh, hc, hm, hs, ht⟩
  · have : xs = [] := List.length_eq_zero_iff.1 h0
    subst this
    exact ⟨⟨none, 0, rfl, Nat.le_refl _, Nat.zero_le _, fun h => absurd rfl h⟩, none, 0, rfl⟩
  · refine ⟨⟨_, cap, rfl, hc, hm, fun _ => ⟨g, rfl, hg, cur, e, hh, fun i hi => ?_⟩⟩, _, cap, rfl⟩
    rw [← ht]
    rw [ints_length] at hi
    simp [hi]

theorem range_snoc (f : Nat → Int) (k : Nat) : ints ((List.range (k + 1)).map f) = ints ((List.range k).map f) ++ [.int .i64 (f k)] := by
  simp [ints, List.range_succ]

theorem range_len (f : Nat → Int) (k : Nat) : ((List.range k).map f).length = k := by simp

/-- Two rows beside each other, at two places beside each other. -/
theorem four_cells {w : World} {ao : Option Addr} {R : List (List Int)} {k j : Nat} (h : ∀ r, r < R.length → ∃ b o vr, ao = some ⟨b, o, none⟩ ∧ w.cell? ⟨b, o + r, none⟩ = some vr ∧ IntsIn w vr (R.getD r [])) (hk : k + 1 < R.length)
    (hj : j + 1 < (R.getD k []).length) (hj' : j + 1 < (R.getD (k + 1) []).length) :
    ∃ b o b1 o1 m cr b2 o2 m' cr', ao = some ⟨b, o, none⟩ ∧ w.cell? ⟨b, o + k, none⟩ = some (.slice (some ⟨b1, o1, none⟩) m cr) ∧ w.cell? ⟨b, o + (k + 1), none⟩ = some (.slice (some ⟨b2, o2, none⟩) m' cr') ∧
      w.cell? ⟨b1, o1 + j, none⟩ = some (.int .i64 (cellOf R k j)) ∧ w.cell? ⟨b2, o2 + j, none⟩ = some (.int .i64 (cellOf R (k + 1) j)) ∧
      w.cell? ⟨b1, o1 + (j + 1), none⟩ = some (.int .i64 (cellOf R k (j + 1))) ∧ w.cell? ⟨b2, o2 + (j + 1), none⟩ = some (.int .i64 (cellOf R (k + 1) (j + 1))) ∧ (j : Int) + 1 < m ∧ (j : Int) + 1 < m' := by
  obtain ⟨b, o, ar, m, cr, rfl, hcell, hrow, EM, hm0⟩ := rowAt h (show k < R.length by omega)
  obtain ⟨b', o', ar', m', cr', eb, hcell', hrow', EM', hm0'⟩ := rowAt h hk
  simp only [Option.some.injEq, Addr.mk.injEq, and_true] at eb
  obtain ⟨rfl, rfl⟩ := eb
  rw [unhide EM] at hj
  rw [unhide EM'] at hj'
  obtain ⟨b1, o1, rfl, hx⟩ := intAt hrow (show j < m by omega)
  obtain ⟨b2, o2, rfl, hy⟩ := intAt hrow' (show j < m' by omega)
  obtain ⟨_, _, e1, hz⟩ := intAt hrow hj
  obtain ⟨_, _, e2, hu⟩ := intAt hrow' hj'
  simp only [Option.some.injEq, Addr.mk.injEq, and_true] at e1 e2
  obtain ⟨rfl, rfl⟩ := e1
  obtain ⟨rfl, rfl⟩ := e2
  exact ⟨b, o, b1, o1, m, cr, b2, o2, m', cr', rfl, hcell, hcell', hx, hy, hz, hu, by omega, by omega⟩

set_option maxHeartbeats 3200000 in
theorem specStrips2_any (step rise : Int) (v : Value) (R : List (List Int)) (c : Int) (w : World) (h : RowsIn w v R) :
    Calls Try.prog 61 #[hullV step rise v, .int .i64 c] w fun e w' => ∃ ao n cap, e = .returned (.slice ao n cap) ∧ OwnSl w.heap.size w' (.slice ao n cap) (strips step rise R c) ∧ Below w.heap.size w w' := by
  have HV := hide h
  obtain ⟨ao, cap, rfl, hl, hm, hc⟩ := h
  have HC := hide hc
  unfold maxLen at hm
  clear hc
  unfold hullV
  have HB0 := hide (box3_alloc w (.int .i64 step) (.int .i64 rise) (.slice ao R.length cap) 26)
  have HW0 := hide (Below.alloc1 w (.cells #[.int .i64 step, .int .i64 rise, .slice ao R.length cap] 26))
  go_enter Try.func61, Try.ntmps61
  go_wp2_with fail
  have A2 : Below w.heap.size w ((w.alloc (.cells #[.int .i64 step, .int .i64 rise, .slice ao R.length cap] 26)).alloc (.cells #[] 3)) := (unhide HW0).alloc (by simp) _
  have X2 := (unhide HB0).below (B := w.heap.size + 1) ((Below.refl _ _).alloc (by simp) (.cells #[] 3)) (by omega)
  have O2 : ((w.alloc (.cells #[.int .i64 step, .int .i64 rise, .slice ao R.length cap] 26)).alloc (.cells #[] 3)).ownsRow (w.heap.size + 1) 3 1 (.slice (some ⟨w.heap.size + 1, 0, none⟩) 0 0) 0 (ints []) := by
    refine ⟨rfl, Or.inr ⟨w.heap.size + 1, 0, #[], rfl, Nat.le_refl _, ?_, Nat.le_refl _, Nat.zero_le _, rfl, rfl⟩⟩
    have := Go.Deep.blk_alloc_new (w.alloc (.cells #[.int .i64 step, .int .i64 rise, .slice ao R.length cap] 26)) (.cells #[] 3)
    simpa using this
  have HA2 := hide A2
  have HX2 := hide X2
  have HO2 := hide O2
  clear A2 X2 O2 HB0 HW0
  refine (l1Water_any step rise _ R c _ ((unhide HV).below (unhide HA2))).mono ?_
  rintro e w1 ⟨rfl, hb⟩
  have HX1 := hide ((unhide HX2).step hb)
  have HW1 := hide (Below.step (unhide HA2) hb)
  have HO1 := hide (ownsRow_below (unhide HO2) hb)
  have hsz : w.heap.size + 2 ≤ w1.heap.size := by have := hb.size; simp at this; omega
  clear hb HX2 HA2 HO2
  cases hok : waterOk step rise R c with
  | false =>
    have HF : Hid (strips step rise R c = []) := by show _ = _; simp [strips, hok]
    clear hok
    go_wp2
    go_ret
    refine ⟨_, 0, 0, rfl, ?_, unhide HW1⟩
    rw [unhide HF]
    exact ⟨_, 0, rfl, Nat.le_refl _, Nat.zero_le _, fun h => absurd rfl h⟩
  | true =>
    have HF : Hid (strips step rise R c = (List.range (R.length - 1)).map (strip2 step rise R c.toNat)) := by show _ = _; simp [strips, hok]
    unfold waterOk at hok
    simp only [Bool.and_eq_true] at hok
    have hR := hullOk_right hok.1
    have hcb := inB_true hok.2
    clear hok
    obtain ⟨j, rfl⟩ := Int.eq_ofNat_of_zero_le hcb.1
    rw [Int.toNat_natCast] at HF
    have hj : j < (R.getD 0 []).length := by omega
    have hjb : j ≤ 10 := by have := hR.wat2; omega
    clear hcb
    have hl1 := hR.len1
    have hl2 := hR.len2
    have HR := hide hR
    have HJ := hide hj
    clear hR hj
    go_wp2
    go_loopg [5, 6] R.length (fun g ov i wr => ∃ k : Nat, k + 1 ≤ R.length ∧ g = R.length - k ∧ i = .int .i64 k ∧ wr.ownsRow (w.heap.size + 1) 3 1 ov k (ints ((List.range k).map (strip2 step rise R j))) ∧ Below (w.heap.size + 1) w1 wr)
    case atStart => exact ⟨0, by omega, rfl, rfl, unhide HO1, Below.refl _ _⟩
    case round =>
      obtain ⟨k, hk, rfl, rfl, hO, hB⟩ := hrel
      obtain ⟨wo, ewo⟩ : ∃ wo : World, wo = wr := ⟨_, rfl⟩
      subst ewo
      obtain ⟨c0, c1, c2⟩ := (unhide HX1).below hB (by omega)
      have HWr := hide ((unhide HW1).trans (hB.mono (by omega)))
      have HBr := hide hB
      have HOr := hide hO
      have hszr : w.heap.size + 2 ≤ wo.heap.size := by have := hB.size; omega
      clear hB hO
      by_cases hkn : k + 1 < R.length
      · go_wp2
        go_loopg [7, 8] j (fun g sv i wr => ∃ q : Nat, q ≤ j ∧ g = j - q ∧ i = .int .i64 q ∧ sv = .int .i64 (sumTo (halvesF R k) q) ∧ ∃ d, wr = wo.drewN d)
        case atStart => exact ⟨0, by omega, rfl, rfl, rfl, 0, rfl⟩
        case round =>
          obtain ⟨q, hq, rfl, rfl, rfl, d, hd⟩ := hrel
          have b0 : wr.cell? ⟨w.heap.size, 0, none⟩ = some (.int .i64 step) := by rw [hd]; exact c0
          have b1 : wr.cell? ⟨w.heap.size, 1, none⟩ = some (.int .i64 rise) := by rw [hd]; exact c1
          have b2 : wr.cell? ⟨w.heap.size, 2, none⟩ = some (.slice ao R.length cap) := by rw [hd]; exact c2
          have HD := hide hd
          by_cases hqj : q < j
          · have hj' := unhide HJ
            have ev := (unhide HR).even
            obtain ⟨b, o, b1', o1, m, cr, b2', o2, m', cr', rfl, g1, g2, g3, g4, g5, g6, g7, g8⟩ := four_cells (unhide HC) hkn (show q + 1 < _ by rw [ev k (by omega)]; omega) (by rw [ev (k + 1) hkn]; omega)
            have hwr : Below w.heap.size w wr := by rw [hd]; exact below_drewN (unhide HWr) d
            have q1 := (hwr.cell (lt_of_cell g1)).trans g1
            have q2 := (hwr.cell (lt_of_cell g2)).trans g2
            have q3 := (hwr.cell (lt_of_cell g3)).trans g3
            have q4 := (hwr.cell (lt_of_cell g4)).trans g4
            have q5 := (hwr.cell (lt_of_cell g5)).trans g5
            have q6 := (hwr.cell (lt_of_cell g6)).trans g6
            have sb := sumTo_bd (halvesF_bd (unhide HR) hkn hj') q (by omega)
            have xb := (unhide HR).cells k q (by omega) (by omega)
            have yb := (unhide HR).cells (k + 1) q hkn (by omega)
            have zb := (unhide HR).cells k (q + 1) (by omega) (by omega)
            have ub := (unhide HR).cells (k + 1) (q + 1) hkn (by omega)
            have ES : Hid (sumTo (halvesF R k) (q + 1) = sumTo (halvesF R k) q + (cellOf R k q + cellOf R (k + 1) q + cellOf R k (q + 1) + cellOf R (k + 1) (q + 1))) := rfl
            clear ev hj' hd hwr g1 g2 g3 g4 g5 g6 c0 c1 c2
            generalize cellOf R k q = x at *
            generalize cellOf R (k + 1) q = y at *
            generalize cellOf R k (q + 1) = z at *
            generalize cellOf R (k + 1) (q + 1) = u at *
            generalize sumTo (halvesF R k) q = S at *
            obtain ⟨sb1, sb2⟩ := sb
            obtain ⟨xb1, xb2⟩ := xb
            obtain ⟨yb1, yb2⟩ := yb
            obtain ⟨zb1, zb2⟩ := zb
            obtain ⟨ub1, ub2⟩ := ub
            go_wp2
            go_quiet (fail)
            go_wp2
            go_roundg (j - (q + 1))
            case measure => omega
            case rel => exact ⟨q + 1, by omega, rfl, by go_num, by rw [unhide ES]; go_num, d + nq, by rw [unhide HD, World.drewN_drewN]⟩
          · have hqq : q = j := by omega
            subst hqq
            have HOw := hide (show wr.ownsRow (w.heap.size + 1) 3 1 _ k (ints ((List.range k).map (strip2 step rise R q))) by rw [hd]; exact ownsRow_below (unhide HOr) (below_drewN (Below.refl _ _) d))
            have HBw : Hid (Below (w.heap.size + 1) w1 wr) := by show Below _ _ _; rw [hd]; exact (unhide HBr).trans ⟨rfl, rfl, rfl, Nat.le_refl _, fun _ _ => rfl⟩
            have hszw : w.heap.size + 2 ≤ wr.heap.size := by rw [hd]; exact hszr
            obtain ⟨⟨p1, p2⟩, p3, p4⟩ := strip2_bd (unhide HR) hkn (unhide HJ)
            have EF : Hid (strip2 step rise R q k = rise * step * sumTo (halvesF R k) q) := rfl
            unfold stripH at p3 p4
            clear hd c0 c1 c2 HD
            generalize sumTo (halvesF R k) q = S at *
            obtain ⟨i0, hi, hz0, hz1, hz2⟩ := info_parts Try.info3
            go_wp2_with (at_builtin; refine wpList_append_own _ rfl _ _ 31 rfl (w.heap.size + 1) 3 i0 (.int .i64 0) 1 8 Try.underlying31 hi hz0 hz1 hz2 rfl (by decide) _ _ _ rfl ((unhide HOw).alloc _) ⟨wr.heap.size, 0, none⟩ 1 1 [.int .i64 (rise * step * S)] rfl rfl ?c1 ?c2 ?c3 ?c4 ?c5 ?_)
            case c1 => exact cell_one_new _ _ _
            case c2 => intro u hu; simp at hu; subst hu; rfl
            case c3 => unfold maxLen; omega
            case c4 => omega
            case c5 => simp; omega
            intro v' w2 hown' hgrow _
            have HO3 : Hid (w2.ownsRow (w.heap.size + 1) 3 1 v' (k + 1) (ints ((List.range (k + 1)).map (strip2 step rise R q)))) := by
              show World.ownsRow _ _ _ _ _ _ _
              rw [range_snoc, unhide EF]
              exact hown'
            have HB3 := hide (((unhide HBw).alloc (by omega) _).grown hgrow (by simp; omega) (fun g hg => ((unhide HOw).lt g hg).1))
            clear hown' hgrow HOw HBw
            go_wp2
            go_roundg (R.length - (k + 1))
            case measure => omega
            case rel => exact ⟨k + 1, by omega, rfl, by go_num, unhide HO3, unhide HB3⟩
      · clear c0 c1
        go_wp2
        go_ret
        have hkk : R.length - 1 = k := by omega
        obtain ⟨hsl, ao', cap', rfl⟩ := ownsRow_ownSl (unhide HOr)
        refine ⟨ao', k, cap', rfl, ?_, unhide HWr⟩
        rw [unhide HF, hkk]
        exact hsl.mono (by omega)

end Go.Proofs.Yticcjdcglfiggaa
