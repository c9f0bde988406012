/- Laid together out of: WalkL, WalkM, WalkP, StE, StEs, Kept, WalkQ, WalkR, CpK, CpInt, OwnCp. -/
import Derived.Test.YticcjdcglfiggaaPb
import Derived.Test.YticcjdcglfiggaaPa
import Derived.Laws.CopyRow
import Derived.ArgAppend
import Derived.WideShapes

/- The contract of the specification's Strips2: the strips, in memory of its own. -/
namespace Go.Proofs.Yticcjdcglfiggaa
open Go.RowKit

theorem ownsRow_below {w w' : World} {base n size : Nat} {e : TypeId} {v : Value} {xs : List Value} (h : w.ownsRow base e size v n xs) (hb : Below w.heap.size w w') : w'.ownsRow base e size v n xs := by
  obtain ⟨h1, h2⟩ := h
  refine ⟨h1, ?_⟩
  rcases h2 with h2 | ⟨g, cap, cur, hv, hg, hh, r⟩
  · exact Or.inl h2
  · obtain ⟨hlt, _⟩ := Array.getElem?_eq_some_iff.1 hh
    exact Or.inr ⟨g, cap, cur, hv, hg, (hb.block g hlt).trans hh, r⟩

theorem ownsRow_ownSl {w : World} {base : Nat} {e : TypeId} {v : Value} {n : Nat} {xs : List Int} (h : w.ownsRow base e 1 v n (ints xs)) : OwnSl base w v xs ∧ ∃ ao cap, v = .slice ao n cap := by
  obtain ⟨h1, h2⟩ := h
  have hn : xs.length = n := by rw [ints_length] at h1; omega
  subst hn
  rcases h2 with ⟨rfl, h0⟩ | ⟨g, cap, cur, rfl, hg, hh, hc, hm, hs, ht⟩
  · have : xs = [] := List.length_eq_zero_iff.1 h0
    subst this
    exact ⟨⟨none, 0, rfl, Nat.le_refl _, Nat.zero_le _, fun h => absurd rfl h⟩, none, 0, rfl⟩
  · refine ⟨⟨_, cap, rfl, hc, hm, fun _ => ⟨g, rfl, hg, cur, e, hh, fun i hi => ?_⟩⟩, _, cap, rfl⟩
    rw [← ht]
    rw [ints_length] at hi
    simp [hi]

theorem range_snoc (f : Nat → Int) (k : Nat) : ints ((List.range (k + 1)).map f) = ints ((List.range k).map f) ++ [.int .i64 (f k)] := by
  simp [ints, List.range_succ]

theorem range_len (f : Nat → Int) (k : Nat) : ((List.range k).map f).length = k := by simp

/-- Two rows beside each other, at two places beside each other. -/
theorem four_cells {w : World} {ao : Option Addr} {R : List (List Int)} {k j : Nat} (h : ∀ r, r < R.length → ∃ b o vr, ao = some ⟨b, o, none⟩ ∧ w.cell? ⟨b, o + r, none⟩ = some vr ∧ IntsIn w vr (R.getD r [])) (hk : k + 1 < R.length)
    (hj : j + 1 < (R.getD k []).length) (hj' : j + 1 < (R.getD (k + 1) []).length) :
    ∃ b o b1 o1 m cr b2 o2 m' cr', ao = some ⟨b, o, none⟩ ∧ w.cell? ⟨b, o + k, none⟩ = some (.slice (some ⟨b1, o1, none⟩) m cr) ∧ w.cell? ⟨b, o + (k + 1), none⟩ = some (.slice (some ⟨b2, o2, none⟩) m' cr') ∧
      w.cell? ⟨b1, o1 + j, none⟩ = some (.int .i64 (cellOf R k j)) ∧ w.cell? ⟨b2, o2 + j, none⟩ = some (.int .i64 (cellOf R (k + 1) j)) ∧
      w.cell? ⟨b1, o1 + (j + 1), none⟩ = some (.int .i64 (cellOf R k (j + 1))) ∧ w.cell? ⟨b2, o2 + (j + 1), none⟩ = some (.int .i64 (cellOf R (k + 1) (j + 1))) ∧ (j : Int) + 1 < m ∧ (j : Int) + 1 < m' := by
  obtain ⟨b, o, ar, m, cr, rfl, hcell, hrow, EM, hm0⟩ := rowAt h (show k < R.length by omega)
  obtain ⟨b', o', ar', m', cr', eb, hcell', hrow', EM', hm0'⟩ := rowAt h hk
  simp only [Option.some.injEq, Addr.mk.injEq, and_true] at eb
  obtain ⟨rfl, rfl⟩ := eb
  rw [unhide EM] at hj
  rw [unhide EM'] at hj'
  obtain ⟨b1, o1, rfl, hx⟩ := intAt hrow (show j < m by omega)
  obtain ⟨b2, o2, rfl, hy⟩ := intAt hrow' (show j < m' by omega)
  obtain ⟨_, _, e1, hz⟩ := intAt hrow hj
  obtain ⟨_, _, e2, hu⟩ := intAt hrow' hj'
  simp only [Option.some.injEq, Addr.mk.injEq, and_true] at e1 e2
  obtain ⟨rfl, rfl⟩ := e1
  obtain ⟨rfl, rfl⟩ := e2
  exact ⟨b, o, b1, o1, m, cr, b2, o2, m', cr', rfl, hcell, hcell', hx, hy, hz, hu, by omega, by omega⟩

set_option maxHeartbeats 3200000 in
theorem specStrips2_any (step rise : Int) (v : Value) (R : List (List Int)) (c : Int) (w : World) (h : RowsIn w v R) :
    Calls Try.prog 61 #[hullV step rise v, .int .i64 c] w fun e w' => ∃ ao n cap, e = .returned (.slice ao n cap) ∧ OwnSl w.heap.size w' (.slice ao n cap) (strips step rise R c) ∧ Below w.heap.size w w' := by
  have HV := hide h
  obtain ⟨ao, cap, rfl, hl, hm, hc⟩ := h
  have HC := hide hc
  unfold maxLen at hm
  clear hc
  unfold hullV
  have HB0 := hide (box3_alloc w (.int .i64 step) (.int .i64 rise) (.slice ao R.length cap) 26)
  have HW0 := hide (Below.alloc1 w (.cells #[.int .i64 step, .int .i64 rise, .slice ao R.length cap] 26))
  go_enter Try.func61, Try.ntmps61
  go_wp2_with fail
  have A2 : Below w.heap.size w ((w.alloc (.cells #[.int .i64 step, .int .i64 rise, .slice ao R.length cap] 26)).alloc (.cells #[] 3)) := (unhide HW0).alloc (by simp) _
  have X2 := (unhide HB0).below (B := w.heap.size + 1) ((Below.refl _ _).alloc (by simp) (.cells #[] 3)) (by omega)
  have O2 : ((w.alloc (.cells #[.int .i64 step, .int .i64 rise, .slice ao R.length cap] 26)).alloc (.cells #[] 3)).ownsRow (w.heap.size + 1) 3 1 (.slice (some ⟨w.heap.size + 1, 0, none⟩) 0 0) 0 (ints []) := by
    refine ⟨rfl, Or.inr ⟨w.heap.size + 1, 0, #[], rfl, Nat.le_refl _, ?_, Nat.le_refl _, Nat.zero_le _, rfl, rfl⟩⟩
    have := Go.Deep.blk_alloc_new (w.alloc (.cells #[.int .i64 step, .int .i64 rise, .slice ao R.length cap] 26)) (.cells #[] 3)
    simpa using this
  have HA2 := hide A2
  have HX2 := hide X2
  have HO2 := hide O2
  clear A2 X2 O2 HB0 HW0
  refine (l1Water_any step rise _ R c _ ((unhide HV).below (unhide HA2))).mono ?_
  rintro e w1 ⟨rfl, hb⟩
  have HX1 := hide ((unhide HX2).step hb)
  have HW1 := hide (Below.step (unhide HA2) hb)
  have HO1 := hide (ownsRow_below (unhide HO2) hb)
  have hsz : w.heap.size + 2 ≤ w1.heap.size := by have := hb.size; simp at this; omega
  clear hb HX2 HA2 HO2
  cases hok : waterOk step rise R c with
  | false =>
    have HF : Hid (strips step rise R c = []) := by show _ = _; simp [strips, hok]
    clear hok
    go_wp2
    go_ret
    refine ⟨_, 0, 0, rfl, ?_, unhide HW1⟩
    rw [unhide HF]
    exact ⟨_, 0, rfl, Nat.le_refl _, Nat.zero_le _, fun h => absurd rfl h⟩
  | true =>
    have HF : Hid (strips step rise R c = (List.range (R.length - 1)).map (strip2 step rise R c.toNat)) := by show _ = _; simp [strips, hok]
    unfold waterOk at hok
    simp only [Bool.and_eq_true] at hok
    have hR := hullOk_right hok.1
    have hcb := inB_true hok.2
    clear hok
    obtain ⟨j, rfl⟩ := Int.eq_ofNat_of_zero_le hcb.1
    rw [Int.toNat_natCast] at HF
    have hj : j < (R.getD 0 []).length := by omega
    have hjb : j ≤ 10 := by have := hR.wat2; omega
    clear hcb
    have hl1 := hR.len1
    have hl2 := hR.len2
    have HR := hide hR
    have HJ := hide hj
    clear hR hj
    go_wp2
    go_loopg [5, 6] R.length (fun g ov i wr => ∃ k : Nat, k + 1 ≤ R.length ∧ g = R.length - k ∧ i = .int .i64 k ∧ wr.ownsRow (w.heap.size + 1) 3 1 ov k (ints ((List.range k).map (strip2 step rise R j))) ∧ Below (w.heap.size + 1) w1 wr)
    case atStart => exact ⟨0, by omega, rfl, rfl, unhide HO1, Below.refl _ _⟩
    case round =>
      obtain ⟨k, hk, rfl, rfl, hO, hB⟩ := hrel
      obtain ⟨wo, ewo⟩ : ∃ wo : World, wo = wr := ⟨_, rfl⟩
      subst ewo
      obtain ⟨c0, c1, c2⟩ := (unhide HX1).below hB (by omega)
      have HWr := hide ((unhide HW1).trans (hB.mono (by omega)))
      have HBr := hide hB
      have HOr := hide hO
      have hszr : w.heap.size + 2 ≤ wo.heap.size := by have := hB.size; omega
      clear hB hO
      by_cases hkn : k + 1 < R.length
      · go_wp2
        go_loopg [7, 8] j (fun g sv i wr => ∃ q : Nat, q ≤ j ∧ g = j - q ∧ i = .int .i64 q ∧ sv = .int .i64 (sumTo (halvesF R k) q) ∧ ∃ d, wr = wo.drewN d)
        case atStart => exact ⟨0, by omega, rfl, rfl, rfl, 0, rfl⟩
        case round =>
          obtain ⟨q, hq, rfl, rfl, rfl, d, hd⟩ := hrel
          have b0 : wr.cell? ⟨w.heap.size, 0, none⟩ = some (.int .i64 step) := by rw [hd]; exact c0
          have b1 : wr.cell? ⟨w.heap.size, 1, none⟩ = some (.int .i64 rise) := by rw [hd]; exact c1
          have b2 : wr.cell? ⟨w.heap.size, 2, none⟩ = some (.slice ao R.length cap) := by rw [hd]; exact c2
          have HD := hide hd
          by_cases hqj : q < j
          · have hj' := unhide HJ
            have ev := (unhide HR).even
            obtain ⟨b, o, b1', o1, m, cr, b2', o2, m', cr', rfl, g1, g2, g3, g4, g5, g6, g7, g8⟩ := four_cells (unhide HC) hkn (show q + 1 < _ by rw [ev k (by omega)]; omega) (by rw [ev (k + 1) hkn]; omega)
            have hwr : Below w.heap.size w wr := by rw [hd]; exact below_drewN (unhide HWr) d
            have q1 := (hwr.cell (lt_of_cell g1)).trans g1
            have q2 := (hwr.cell (lt_of_cell g2)).trans g2
            have q3 := (hwr.cell (lt_of_cell g3)).trans g3
            have q4 := (hwr.cell (lt_of_cell g4)).trans g4
            have q5 := (hwr.cell (lt_of_cell g5)).trans g5
            have q6 := (hwr.cell (lt_of_cell g6)).trans g6
            have sb := sumTo_bd (halvesF_bd (unhide HR) hkn hj') q (by omega)
            have xb := (unhide HR).cells k q (by omega) (by omega)
            have yb := (unhide HR).cells (k + 1) q hkn (by omega)
            have zb := (unhide HR).cells k (q + 1) (by omega) (by omega)
            have ub := (unhide HR).cells (k + 1) (q + 1) hkn (by omega)
            have ES : Hid (sumTo (halvesF R k) (q + 1) = sumTo (halvesF R k) q + (cellOf R k q + cellOf R (k + 1) q + cellOf R k (q + 1) + cellOf R (k + 1) (q + 1))) := rfl
            clear ev hj' hd hwr g1 g2 g3 g4 g5 g6 c0 c1 c2
            generalize cellOf R k q = x at *
            generalize cellOf R (k + 1) q = y at *
            generalize cellOf R k (q + 1) = z at *
            generalize cellOf R (k + 1) (q + 1) = u at *
            generalize sumTo (halvesF R k) q = S at *
            obtain ⟨sb1, sb2⟩ := sb
            obtain ⟨xb1, xb2⟩ := xb
            obtain ⟨yb1, yb2⟩ := yb
            obtain ⟨zb1, zb2⟩ := zb
            obtain ⟨ub1, ub2⟩ := ub
            go_wp2
            go_quiet (fail)
            go_wp2
            go_roundg (j - (q + 1))
            case measure => omega
            case rel => exact ⟨q + 1, by omega, rfl, by go_num, by rw [unhide ES]; go_num, d + nq, by rw [unhide HD, World.drewN_drewN]⟩
          · have hqq : q = j := by omega
            subst hqq
            have HOw := hide (show wr.ownsRow (w.heap.size + 1) 3 1 _ k (ints ((List.range k).map (strip2 step rise R q))) by rw [hd]; exact ownsRow_below (unhide HOr) (below_drewN (Below.refl _ _) d))
            have HBw : Hid (Below (w.heap.size + 1) w1 wr) := by show Below _ _ _; rw [hd]; exact (unhide HBr).trans ⟨rfl, rfl, rfl, Nat.le_refl _, fun _ _ => rfl⟩
            have hszw : w.heap.size + 2 ≤ wr.heap.size := by rw [hd]; exact hszr
            obtain ⟨⟨p1, p2⟩, p3, p4⟩ := strip2_bd (unhide HR) hkn (unhide HJ)
            have EF : Hid (strip2 step rise R q k = rise * step * sumTo (halvesF R k) q) := rfl
            unfold stripH at p3 p4
            clear hd c0 c1 c2 HD
            generalize sumTo (halvesF R k) q = S at *
            obtain ⟨i0, hi, hz0, hz1, hz2⟩ := info_parts Try.info3
            go_wp2_with (at_builtin; refine wpList_append_own _ rfl _ _ 31 rfl (w.heap.size + 1) 3 i0 (.int .i64 0) 1 8 Try.underlying31 hi hz0 hz1 hz2 rfl (by decide) _ _ _ rfl ((unhide HOw).alloc _) ⟨wr.heap.size, 0, none⟩ 1 1 [.int .i64 (rise * step * S)] rfl rfl ?c1 ?c2 ?c3 ?c4 ?c5 ?_)
            case c1 => exact cell_one_new _ _ _
            case c2 => intro u hu; simp at hu; subst hu; rfl
            case c3 => unfold maxLen; omega
            case c4 => omega
            case c5 => simp; omega
            intro v' w2 hown' hgrow _
            have HO3 : Hid (w2.ownsRow (w.heap.size + 1) 3 1 v' (k + 1) (ints ((List.range (k + 1)).map (strip2 step rise R q)))) := by
              show World.ownsRow _ _ _ _ _ _ _
              rw [range_snoc, unhide EF]
              exact hown'
            have HB3 := hide (((unhide HBw).alloc (by omega) _).grown hgrow (by simp; omega) (fun g hg => ((unhide HOw).lt g hg).1))
            clear hown' hgrow HOw HBw
            go_wp2
            go_roundg (R.length - (k + 1))
            case measure => omega
            case rel => exact ⟨k + 1, by omega, rfl, by go_num, unhide HO3, unhide HB3⟩
      · clear c0 c1
        go_wp2
        go_ret
        have hkk : R.length - 1 = k := by omega
        obtain ⟨hsl, ao', cap', rfl⟩ := ownsRow_ownSl (unhide HOr)
        refine ⟨ao', k, cap', rfl, ?_, unhide HWr⟩
        rw [unhide HF, hkk]
        exact hsl.mono (by omega)

end Go.Proofs.Yticcjdcglfiggaa

/- Twice the volume, and four times the moment along, as plain functions of the strips; the contracts of both Volume2 and both Along4. -/
namespace Go.Proofs.Yticcjdcglfiggaa
open Go.RowKit

theorem strips_len (step rise : Int) (R : List (List Int)) (c : Int) : (strips step rise R c).length ≤ 11 := by
  unfold strips
  by_cases h : waterOk step rise R c = true
  · rw [if_pos h, range_len]
    unfold waterOk at h
    simp only [Bool.and_eq_true] at h
    have := (hullOk_right h.1).len2
    omega
  · rw [if_neg h]; simp

theorem strips_at {step rise : Int} {R : List (List Int)} {c : Int} {i : Nat} (hi : i < (strips step rise R c).length) : Right step rise R ∧ 0 ≤ (strips step rise R c).getD i 0 ∧ (strips step rise R c).getD i 0 ≤ 4000000 := by
  unfold strips at hi ⊢
  by_cases h : waterOk step rise R c = true
  · rw [if_pos h] at hi ⊢
    rw [range_len] at hi
    unfold waterOk at h
    simp only [Bool.and_eq_true] at h
    have hR := hullOk_right h.1
    have hc := inB_true h.2
    have e : ((List.range (R.length - 1)).map (strip2 step rise R c.toNat)).getD i 0 = strip2 step rise R c.toNat i := by simp [List.getD, hi]
    rw [e]
    exact ⟨hR, (strip2_bd hR (s := i) (c := c.toNat) (by omega) (by omega)).2⟩
  · rw [if_neg h] at hi; simp at hi

def sumL (xs : List Int) (k : Nat) : Int := sumTo (fun i => xs.getD i 0) k

theorem sumL_bd {step rise : Int} {R : List (List Int)} {c : Int} {k : Nat} (hk : k ≤ (strips step rise R c).length) : 0 ≤ sumL (strips step rise R c) k ∧ sumL (strips step rise R c) k ≤ 48000000 := by
  have h := sumTo_bd (f := fun i => (strips step rise R c).getD i 0) (B := 4000000) (n := (strips step rise R c).length) (fun i hi => (strips_at hi).2) k hk
  have := strips_len step rise R c
  unfold sumL
  omega

def volume (step rise : Int) (R : List (List Int)) (c : Int) : Int := sumL (strips step rise R c) (strips step rise R c).length

set_option maxHeartbeats 800000 in
theorem l1Sum_any (v : Value) (xs : List Int) (w : World) (h : IntsIn w v xs) (hx : ∀ i, i < xs.length → 0 ≤ xs.getD i 0 ∧ xs.getD i 0 ≤ 4000000) (hn : xs.length ≤ 11) :
    Calls Try.prog 60 #[v] w fun e w' => e = .returned (.int .i64 (sumL xs xs.length)) ∧ w = w' := by
  obtain ⟨ao, cap, rfl, hl, hm, hc⟩ := h
  unfold maxLen at hm
  have HC := hide hc
  have HX := hide hx
  clear hc hx
  go_enter Try.func60, Try.ntmps60
  go_wp2
  go_loopg [3, 4] xs.length (fun g sv i wr => w = wr ∧ ∃ k : Nat, k ≤ xs.length ∧ g = xs.length - k ∧ i = .int .i64 k ∧ sv = .int .i64 (sumL xs k))
  case atStart => exact ⟨rfl, 0, Nat.zero_le _, rfl, rfl, rfl⟩
  case round =>
    obtain ⟨rfl, k, hk, rfl, rfl, rfl⟩ := hrel
    by_cases hkn : k < xs.length
    · obtain ⟨b, o, rfl, hcell⟩ := unhide HC k hkn
      have hb := unhide HX k hkn
      have sb := sumTo_bd (f := fun i => xs.getD i 0) (unhide HX) k hk
      have ES : Hid (sumL xs (k + 1) = sumL xs k + xs.getD k 0) := rfl
      change 0 ≤ sumL xs k ∧ sumL xs k ≤ _ at sb
      generalize xs.getD k 0 = x at *
      generalize sumL xs k = S at *
      obtain ⟨sb1, sb2⟩ := sb
      obtain ⟨hb1, hb2⟩ := hb
      go_wp2
      go_roundg (xs.length - (k + 1))
      case measure => omega
      case rel => exact ⟨rfl, k + 1, by omega, rfl, by go_num, by rw [unhide ES]⟩
    · have hkk : k = xs.length := by omega
      subst hkk
      go_wp2
      go_ret
      exact ⟨rfl, rfl⟩

set_option maxHeartbeats 800000 in
theorem specVolume2_any (step rise : Int) (v : Value) (R : List (List Int)) (c : Int) (w : World) (h : RowsIn w v R) :
    Calls Try.prog 21 #[hullV step rise v, .int .i64 c] w fun e w' => e = .returned (.int .i64 (volume step rise R c)) ∧ Below w.heap.size w w' := by
  have HV := hide h
  obtain ⟨ao, cap, rfl, hl, hm, hc⟩ := h
  clear hc hl hm
  unfold hullV
  have HW0 := hide (Below.alloc1 w (.cells #[.int .i64 step, .int .i64 rise, .slice ao R.length cap] 26))
  go_enter Try.func21, Try.ntmps21
  go_wp2_with fail
  refine (specStrips2_any step rise _ R c _ ((unhide HV).below (unhide HW0))).mono ?_
  rintro e w1 ⟨ao1, n1, cap1, rfl, ho, hb⟩
  have HO := hide ho
  have HW1 := hide (Below.step (unhide HW0) hb)
  clear ho hb HW0
  go_wp2_with fail
  refine (l1Sum_any _ _ _ (unhide HO).intsIn (fun i hi => (strips_at hi).2) (strips_len _ _ _ _)).mono ?_
  rintro e w2 ⟨rfl, rfl⟩
  go_wp2
  go_ret
  exact ⟨rfl, unhide HW1⟩

set_option maxHeartbeats 800000 in
theorem implVolume2_any (step rise : Int) (v : Value) (R : List (List Int)) (c : Int) (w : World) (h : RowsIn w v R) :
    Calls Try.prog 14 #[hullV step rise v, .int .i64 c] w fun e w' => e = .returned (.int .i64 (volume step rise R c)) ∧ Below w.heap.size w w' := by
  have HV := hide h
  obtain ⟨ao, cap, rfl, hl, hm, hc⟩ := h
  clear hc hl hm
  unfold hullV
  have HW0 := hide (Below.alloc1 w (.cells #[.int .i64 step, .int .i64 rise, .slice ao R.length cap] 26))
  go_enter Try.func14, Try.ntmps14
  go_wp2_with fail
  refine (implStrips2_any step rise _ R c _ ((unhide HV).below (unhide HW0))).mono ?_
  rintro e w1 ⟨ao1, n1, cap1, rfl, ho, hb⟩
  have HI := hide ho.intsIn
  have HW1 := hide (Below.step (unhide HW0) hb)
  clear ho hb HW0
  obtain ⟨xs, exs⟩ : ∃ xs, xs = strips step rise R c := ⟨_, rfl⟩
  have EV : Hid (volume step rise R c = sumL xs xs.length) := by show _ = _; rw [exs]; rfl
  have HX : Hid (∀ i, i < xs.length → 0 ≤ xs.getD i 0 ∧ xs.getD i 0 ≤ 4000000) := by rw [exs]; exact fun i hi => (strips_at hi).2
  have hn : xs.length ≤ 11 := by rw [exs]; exact strips_len _ _ _ _
  rw [← exs] at HI
  clear exs
  obtain ⟨en, _, _⟩ := (unhide HI).len
  subst en
  go_wp2
  go_loopg [5, 12] xs.length (fun g sv i wr => w1 = wr ∧ ∃ k : Nat, k ≤ xs.length ∧ g = xs.length - k ∧ i = .int .i64 k ∧ sv = .int .i64 (sumL xs k))
  case atStart => exact ⟨rfl, 0, Nat.zero_le _, rfl, rfl, rfl⟩
  case round =>
    obtain ⟨rfl, k, hk, rfl, rfl, rfl⟩ := hrel
    by_cases hkn : k < xs.length
    · obtain ⟨b, o, rfl, hcell⟩ := intAt (unhide HI) hkn
      have hb := unhide HX k hkn
      have sb := sumTo_bd (f := fun i => xs.getD i 0) (unhide HX) k hk
      have ES : Hid (sumL xs (k + 1) = sumL xs k + xs.getD k 0) := rfl
      change 0 ≤ sumL xs k ∧ sumL xs k ≤ _ at sb
      generalize xs.getD k 0 = x at *
      generalize sumL xs k = S at *
      obtain ⟨sb1, sb2⟩ := sb
      obtain ⟨hb1, hb2⟩ := hb
      go_wp2
      go_roundg (xs.length - (k + 1))
      case measure => omega
      case rel => exact ⟨rfl, k + 1, by omega, rfl, by go_num, by rw [unhide ES]⟩
    · have hkk : k = xs.length := by omega
      subst hkk
      go_wp2
      go_ret
      exact ⟨ret_int (unhide EV).symm, unhide HW1⟩

end Go.Proofs.Yticcjdcglfiggaa

/- The least water line that bears a volume as a plain function; the contracts of both Afloat. -/
namespace Go.Proofs.Yticcjdcglfiggaa
open Go.RowKit

theorem volume_bd (step rise : Int) (R : List (List Int)) (c : Int) : 0 ≤ volume step rise R c ∧ volume step rise R c ≤ 48000000 := sumL_bd (Nat.le_refl _)

theorem l1In_stay (x a b : Int) (w : World) : Calls Try.prog 77 #[.int .i64 x, .int .i64 a, .int .i64 b] w fun e w' => e = .returned (.bool (inB x a b)) ∧ w = w' :=
  (l1In_any x a b w).mono fun _ _ ⟨h1, h2⟩ => ⟨h1, h2.symm⟩

def afloat (step rise : Int) (R : List (List Int)) (vol : Int) : Int :=
  if hullOk step rise R = true ∧ inB vol 0 1000000000 = true then
    match (List.range (R.getD 0 []).length).find? fun k : Nat => decide (2 * vol ≤ volume step rise R (k : Int)) with
    | some k => (k : Int)
    | none => -1
  else -1

theorem afloat_some {step rise : Int} {R : List (List Int)} {vol : Int} {k : Nat} (h1 : hullOk step rise R = true) (h2 : inB vol 0 1000000000 = true) (hk : k < (R.getD 0 []).length) (hp : 2 * vol ≤ volume step rise R (k : Int))
    (hn : ∀ t, t < k → volume step rise R (t : Int) < 2 * vol) : afloat step rise R vol = k := by
  unfold afloat
  rw [if_pos ⟨h1, h2⟩]
  have : (List.range (R.getD 0 []).length).find? (fun k : Nat => decide (2 * vol ≤ volume step rise R (k : Int))) = some k := by
    rw [List.find?_range_eq_some]
    refine ⟨by simpa using hp, by simpa using hk, fun t ht => ?_⟩
    have := hn t ht
    simp; omega
  rw [this]

theorem afloat_none {step rise : Int} {R : List (List Int)} {vol : Int} (hn : ∀ t, t < (R.getD 0 []).length → volume step rise R (t : Int) < 2 * vol) : afloat step rise R vol = -1 := by
  unfold afloat
  split
  · have : (List.range (R.getD 0 []).length).find? (fun k : Nat => decide (2 * vol ≤ volume step rise R (k : Int))) = none := by
      rw [List.find?_eq_none]
      intro t ht
      have := hn t (by simpa using ht)
      simp; omega
    rw [this]
  · rfl

set_option maxHeartbeats 1600000 in
theorem specAfloat_any (step rise : Int) (v : Value) (R : List (List Int)) (vol : Int) (w : World) (h : RowsIn w v R) :
    Calls Try.prog 83 #[hullV step rise v, .int .i64 vol] w fun e w' => e = .returned (.int .i64 (afloat step rise R vol)) ∧ Below w.heap.size w w' := by
  have HV := hide h
  obtain ⟨ao, cap, rfl, hl, hm, hc⟩ := h
  have HC := hide hc
  unfold maxLen at hm
  clear hc
  unfold hullV
  have HB0 := hide (box3_alloc w (.int .i64 step) (.int .i64 rise) (.slice ao R.length cap) 26)
  have HW0 := hide (Below.alloc1 w (.cells #[.int .i64 step, .int .i64 rise, .slice ao R.length cap] 26))
  go_enter Try.func83, Try.ntmps83
  go_wp2_with fail
  refine (specHullOk_any step rise _ R _ ((unhide HV).below (unhide HW0))).mono ?_
  rintro e w1 ⟨rfl, hb⟩
  have HB1 := hide ((unhide HB0).step hb)
  have HW1 := hide (Below.step (unhide HW0) hb)
  clear hb HB0 HW0
  cases hok : hullOk step rise R with
  | false =>
    have HF : Hid (afloat step rise R vol = -1) := by show _ = _; simp [afloat, hok]
    clear hok
    go_wp2
    go_ret
    exact ⟨ret_int (unhide HF).symm, unhide HW1⟩
  | true =>
  cases hin : inB vol 0 1000000000 with
  | false =>
    have HF : Hid (afloat step rise R vol = -1) := by show _ = _; simp [afloat, hin]
    have HK := hide hok
    clear hok
    go_wp2_with (go_at_call 77; refine (l1In_stay _ _ _ _).mono ?_; rintro e w' ⟨rfl, rfl⟩)
    go_ret
    exact ⟨ret_int (unhide HF).symm, unhide HW1⟩
  | true =>
    have hR := hullOk_right hok
    have hvb := inB_true hin
    have HOK := hide hok
    have HIN := hide hin
    obtain ⟨hv1, hv2⟩ := hvb
    obtain ⟨b, o, ar, m, cr, rfl, hcell, _, EM, hm0⟩ := rowAt (unhide HC) (show 0 < R.length by have := hR.len1; omega)
    simp only [Nat.add_zero] at hcell
    have HC0 := hide hcell
    have hl1 := hR.len1
    have hm2 : m ≤ 10 := by rw [← unhide EM]; exact hR.wat2
    clear hok hR hcell
    go_wp2_with (go_at_call 77; refine (l1In_stay _ _ _ _).mono ?_; rintro e w' ⟨rfl, rfl⟩)
    clear hin
    go_loopg [5] m (fun g i wr => ∃ k : Nat, k ≤ m ∧ g = m - k ∧ i = .int .i64 k ∧ Hid (∀ t : Nat, t < k → volume step rise R (t : Int) < 2 * vol) ∧ Below w1.heap.size w1 wr)
    case atStart => exact ⟨0, by omega, rfl, rfl, fun t ht => by omega, Below.refl _ _⟩
    case round =>
      obtain ⟨k, hk, rfl, rfl, HT, hB⟩ := hrel
      obtain ⟨c0, c1, c2⟩ := (unhide HB1).step hB
      have HWr := hide (Below.step (unhide HW1) hB)
      have c3 : wr.cell? ⟨b, o, none⟩ = some (.slice ar m cr) := ((unhide HWr).cell (lt_of_cell (unhide HC0))).trans (unhide HC0)
      have HBr := hide hB
      clear hB
      by_cases hkn : k < m
      · have HL := hide (specVolume2_any step rise _ R (k : Int) wr ((unhide HV).below (unhide HWr)))
        obtain ⟨vb1, vb2⟩ := volume_bd step rise R (k : Int)
        by_cases hp : 2 * vol ≤ volume step rise R (k : Int)
        · have HF := hide (afloat_some (unhide HOK) (unhide HIN) (by rw [unhide EM]; exact hkn) hp HT.out)
          generalize volume step rise R (k : Int) = x at *
          go_wp2_with fail
          refine (unhide HL).mono ?_
          rintro e w3 ⟨rfl, hb⟩
          have HW3 := hide (Below.step (unhide HWr) hb)
          clear hb c0 c1 c2 c3 HL
          go_wp2
          go_ret
          exact ⟨ret_int (unhide HF).symm, unhide HW3⟩
        · have HT' : Hid (∀ t : Nat, t < k + 1 → volume step rise R (t : Int) < 2 * vol) := fun t ht => by
            by_cases e : t = k
            · subst e; omega
            · exact HT.out t (by omega)
          generalize volume step rise R (k : Int) = x at *
          go_wp2_with fail
          refine (unhide HL).mono ?_
          rintro e w3 ⟨rfl, hb⟩
          have HB3 := hide (Below.step (unhide HBr) hb)
          clear hb c0 c1 c2 c3 HL HT
          go_wp2
          go_roundg (m - (k + 1))
          case measure => omega
          case rel => exact ⟨k + 1, by omega, rfl, by go_num, HT', unhide HB3⟩
      · have HF := hide (afloat_none (step := step) (rise := rise) (R := R) (vol := vol) (fun t ht => HT.out t (by rw [unhide EM] at ht; omega)))
        clear c0 c1
        go_wp2
        go_ret
        exact ⟨ret_int (unhide HF).symm, unhide HWr⟩

set_option maxHeartbeats 1600000 in
theorem implAfloat_any (step rise : Int) (v : Value) (R : List (List Int)) (vol : Int) (w : World) (h : RowsIn w v R) :
    Calls Try.prog 67 #[hullV step rise v, .int .i64 vol] w fun e w' => e = .returned (.int .i64 (afloat step rise R vol)) ∧ Below w.heap.size w w' := by
  have HV := hide h
  obtain ⟨ao, cap, rfl, hl, hm, hc⟩ := h
  clear hc hl hm
  unfold hullV
  have HB0 := hide (box3_alloc w (.int .i64 step) (.int .i64 rise) (.slice ao R.length cap) 26)
  have HW0 := hide (Below.alloc1 w (.cells #[.int .i64 step, .int .i64 rise, .slice ao R.length cap] 26))
  go_enter Try.func67, Try.ntmps67
  go_wp2_with fail
  refine (implHullOk_any step rise _ R _ ((unhide HV).below (unhide HW0))).mono ?_
  rintro e w1 ⟨rfl, hb⟩
  have HB1 := hide ((unhide HB0).step hb)
  have HW1 := hide (Below.step (unhide HW0) hb)
  clear hb HB0 HW0
  cases hok : hullOk step rise R with
  | false =>
    have HF : Hid (afloat step rise R vol = -1) := by show _ = _; simp [afloat, hok]
    clear hok
    go_wp2
    go_ret
    exact ⟨ret_int (unhide HF).symm, unhide HW1⟩
  | true =>
  cases hin : inB vol 0 1000000000 with
  | false =>
    have HF : Hid (afloat step rise R vol = -1) := by show _ = _; simp [afloat, hin]
    have HK := hide hok
    clear hok
    go_wp2_with (go_at_call 53; refine (within_any _ _ _ _).mono ?_; rintro e w' ⟨rfl, rfl⟩)
    go_ret
    exact ⟨ret_int (unhide HF).symm, unhide HW1⟩
  | true =>
    have hR := hullOk_right hok
    have hvb := inB_true hin
    have HOK := hide hok
    have HIN := hide hin
    obtain ⟨hv1, hv2⟩ := hvb
    have hl1 := hR.len1
    have hm2 := hR.wat2
    clear hok hR
    obtain ⟨m, em⟩ : ∃ m, m = (R.getD 0 []).length := ⟨_, rfl⟩
    rw [← em] at hm2
    have EM := hide em
    clear em
    obtain ⟨c0, c1, c2⟩ := unhide HB1
    go_wp2_with (go_at_call 53; refine (within_any _ _ _ _).mono ?_; rintro e w' ⟨rfl, rfl⟩)
    refine (waterCount_any step rise _ R _ ((unhide HV).below (unhide HW1)) (by omega)).mono ?_
    rintro e w2 ⟨rfl, hb⟩
    have HB2 := hide ((unhide HB1).step hb)
    have HW2 := hide (Below.step (unhide HW1) hb)
    clear hb hin c0 c1 c2 HB1 HW1
    rw [← unhide EM]
    go_wp2
    go_loopg [16] m (fun g i wr => ∃ k : Nat, k ≤ m ∧ g = m - k ∧ i = .int .i64 k ∧ Hid (∀ t : Nat, t < k → volume step rise R (t : Int) < 2 * vol) ∧ Below w2.heap.size w2 wr)
    case atStart => exact ⟨0, by omega, rfl, rfl, fun t ht => by omega, Below.refl _ _⟩
    case round =>
      obtain ⟨k, hk, rfl, rfl, HT, hB⟩ := hrel
      obtain ⟨c0, c1, c2⟩ := (unhide HB2).step hB
      have HWr := hide (Below.step (unhide HW2) hB)
      have HBr := hide hB
      clear hB
      by_cases hkn : k < m
      · have HL := hide (implVolume2_any step rise _ R (k : Int) wr ((unhide HV).below (unhide HWr)))
        obtain ⟨vb1, vb2⟩ := volume_bd step rise R (k : Int)
        by_cases hp : 2 * vol ≤ volume step rise R (k : Int)
        · have HF := hide (afloat_some (unhide HOK) (unhide HIN) (by rw [← unhide EM]; exact hkn) hp HT.out)
          generalize volume step rise R (k : Int) = x at *
          go_wp2_with fail
          refine (unhide HL).mono ?_
          rintro e w3 ⟨rfl, hb⟩
          have HW3 := hide (Below.step (unhide HWr) hb)
          clear hb c0 c1 c2 HL
          go_wp2
          go_ret
          exact ⟨ret_int (unhide HF).symm, unhide HW3⟩
        · have HT' : Hid (∀ t : Nat, t < k + 1 → volume step rise R (t : Int) < 2 * vol) := fun t ht => by
            by_cases e : t = k
            · subst e; omega
            · exact HT.out t (by omega)
          generalize volume step rise R (k : Int) = x at *
          go_wp2_with fail
          refine (unhide HL).mono ?_
          rintro e w3 ⟨rfl, hb⟩
          have HB3 := hide (Below.step (unhide HBr) hb)
          clear hb c0 c1 c2 HL HT
          go_wp2
          go_roundg (m - (k + 1))
          case measure => omega
          case rel => exact ⟨k + 1, by omega, rfl, by go_num, HT', unhide HB3⟩
      · have HF := hide (afloat_none (step := step) (rise := rise) (R := R) (vol := vol) (fun t ht => HT.out t (by rw [← unhide EM] at ht; omega)))
        clear c0 c1 c2
        go_wp2
        go_ret
        exact ⟨ret_int (unhide HF).symm, unhide HWr⟩

end Go.Proofs.Yticcjdcglfiggaa

/- The metacentre as a plain function, and the contracts of the program's and the specification's Metacentre: both tell it. -/
namespace Go.Proofs.Yticcjdcglfiggaa
open Go.RowKit

theorem inertia_bd (step rise : Int) (R : List (List Int)) (c : Int) : 0 ≤ inertia step rise R c ∧ inertia step rise R c ≤ 275000000 := by
  unfold inertia
  split
  case isFalse => omega
  case isTrue h =>
    unfold waterOk at h
    simp only [Bool.and_eq_true] at h
    have hr := hullOk_right h.1
    have hc := inB_true h.2
    have := sumTo_bd (inerF_bd hr (c := c.toNat) (by omega)) (R.length - 1) (Nat.le_refl _)
    have h2 := hr.len2
    omega

theorem height_bd (step rise : Int) (R : List (List Int)) (c : Int) : 0 ≤ height step rise R c ∧ height step rise R c ≤ 20000000000 := by
  unfold height
  split
  case isFalse => omega
  case isTrue h =>
    unfold waterOk at h
    simp only [Bool.and_eq_true] at h
    have hr := hullOk_right h.1
    have hc := inB_true h.2
    have hw := hr.wat2
    have := sumTo_bd (fun k hk => (heightF_bd (step := step) R hr.rise1 hr.rise2 k (by omega)).2.2) c.toNat (Nat.le_refl c.toNat)
    omega

def metaB (step rise : Int) (R : List (List Int)) (c : Int) (L : List I3) (T : List I2) : Bool := massesB L && decide ((load L).1 ≠ 0) && decide (volume step rise R c ≠ 0) && tanksB T
def metaNum (step rise : Int) (R : List (List Int)) (c : Int) (L : List I3) (T : List I2) : Int :=
  (3 * height step rise R c + 4 * inertia step rise R c - surf T) * (load L).1 - 6 * volume step rise R c * (load L).2.2
def metaDen (step rise : Int) (R : List (List Int)) (c : Int) (L : List I3) : Int := 6 * volume step rise R c * (load L).1
def metaV (step rise : Int) (R : List (List Int)) (c : Int) (L : List I3) (T : List I2) : I2 :=
  if metaB step rise R c L T = true then lowV (metaNum step rise R c L T) (metaDen step rise R c L) else (0, 0)

theorem prod_bd {a b A B : Int} (h1 : -A ≤ a) (h2 : a ≤ A) (h3 : 0 ≤ b) (h4 : b ≤ B) : -(A * B) ≤ a * b ∧ a * b ≤ A * B := by
  have hA : 0 ≤ A := by omega
  have h5 : A * b ≤ A * B := Int.mul_le_mul_of_nonneg_left h4 hA
  have h6 : a * b ≤ A * b := Int.mul_le_mul_of_nonneg_right h2 h3
  have h7 : -A * b ≤ a * b := Int.mul_le_mul_of_nonneg_right h1 h3
  rw [Int.neg_mul] at h7
  omega

theorem load_bd (L : List I3) : (0 ≤ (load L).1 ∧ (load L).1 ≤ 400000) ∧ (0 ≤ (load L).2.2 ∧ (load L).2.2 ≤ 400000000) := by
  unfold load
  split
  case isFalse => simp
  case isTrue h =>
    have := loadTo_bd h (Nat.le_refl _)
    have := (massesB_at h).1
    omega

theorem Own2.puts {w : World} {g : Nat} {x : I2} (h : OwnV w g [.int .i64 x.1, .int .i64 x.2]) (a b : Int) : OwnV ((w.setCell ⟨g, 0, none⟩ (.int .i64 a)).setCell ⟨g, 1, none⟩ (.int .i64 b)) g [.int .i64 a, .int .i64 b] :=
  (h.set 0 (.int .i64 a) (by simp)).set 1 (.int .i64 b) (by simp)

set_option maxHeartbeats 1600000 in
theorem implMetacentre_any (step rise : Int) (v : Value) (R : List (List Int)) (c : Int) (u : Value) (L : List I3) (t : Value) (T : List I2) (w : World) (h : RowsIn w v R) (hL : R3 w u L) (hT : R2 w t T) :
    Calls Try.prog 68 #[hullV step rise v, .int .i64 c, u, t] w fun e w' => e = .returned (.tuple #[v2 (metaV step rise R c L T), .bool (metaB step rise R c L T)]) ∧ Below w.heap.size w w' := by
  have HV := hide h
  have HU := hide hL
  have HT := hide hT
  obtain ⟨ao, cap, rfl, hl, hm, hc⟩ := h
  obtain ⟨ao1, cap1, rfl, hl1, hm1, hc1⟩ := hL
  obtain ⟨ao2, cap2, rfl, hl2, hm2, hc2⟩ := hT
  clear hc hl hm hc1 hl1 hm1 hc2 hl2 hm2
  unfold hullV
  obtain ⟨W0, eW0⟩ : ∃ W, W = (w.alloc (.cells #[.int .i64 step, .int .i64 rise, .slice ao R.length cap] 26)).alloc (.cells #[.int .i64 0, .int .i64 0] 44) := ⟨_, rfl⟩
  have HW0 : Hid (Below w.heap.size w W0) := by show Below _ _ _; rw [eW0]; exact Below.step (Below.alloc1 _ _) (Below.alloc1 _ _)
  have HB0 : Hid (OwnV W0 w.heap.size [.int .i64 step, .int .i64 rise, .slice ao R.length cap]) := by show OwnV _ _ _; rw [eW0]; exact OwnV.alloc (ownV_alloc w #[.int .i64 step, .int .i64 rise, .slice ao R.length cap] _) _
  have HA0 : Hid (OwnV W0 (w.heap.size + 1) [.int .i64 0, .int .i64 0]) := by
    show OwnV _ _ _
    rw [eW0]
    have := ownV_alloc (w.alloc (.cells #[.int .i64 step, .int .i64 rise, .slice ao R.length cap] 26)) #[.int .i64 0, .int .i64 0] 44
    simpa using this
  go_enter Try.func68, Try.ntmps68
  go_wp2_with fail
  rw [← eW0]
  have EW0 := hide eW0
  clear eW0
  refine (implLoadOf_any _ L _ ((unhide HU).below (unhide HW0))).mono ?_
  rintro e w1 ⟨rfl, hb⟩
  have HW1 := hide (Below.step (unhide HW0) hb)
  have HB1 := hide (OwnV.step (unhide HB0) hb)
  have HA1 := hide (OwnV.step (unhide HA0) hb)
  clear hb HW0 HB0 HA0 EW0
  have hld := load_bd L
  obtain ⟨⟨Wt, MX, MZ⟩, el⟩ : ∃ x, x = load L := ⟨_, rfl⟩
  rw [← el] at hld ⊢
  dsimp only at hld
  have EL := hide el
  clear el
  obtain ⟨⟨l1, l2⟩, l3, l4⟩ := hld
  have A2 := Below.alloc1 w1 (.cells #[.int .i64 Wt, .int .i64 MX, .int .i64 MZ] 93)
  have HW2 := hide (Below.step (unhide HW1) A2)
  have HB2 := hide (OwnV.step (unhide HB1) A2)
  have HA2 := hide (OwnV.step (unhide HA1) A2)
  have HD2 := hide (ownV_alloc w1 #[.int .i64 Wt, .int .i64 MX, .int .i64 MZ] 93)
  clear A2 HW1
  have b0 := OwnV.cell (unhide HB1) (i := 0) rfl
  have b1 := OwnV.cell (unhide HB1) (i := 1) rfl
  have b2 := OwnV.cell (unhide HB1) (i := 2) rfl
  have hz1 := (unhide HB1).lt
  go_wp2_with fail
  clear b0 b1 b2 HB1 HA1
  refine (implVolume2_any step rise _ R c _ ((unhide HV).below (unhide HW2))).mono ?_
  rintro e w3 ⟨rfl, hb⟩
  have HW3 := hide (Below.step (unhide HW2) hb)
  have HB3 := hide (OwnV.step (unhide HB2) hb)
  have HA3 := hide (OwnV.step (unhide HA2) hb)
  have HD3 := hide (OwnV.step (unhide HD2) hb)
  clear hb HW2 HB2 HA2 HD2
  have hvol := volume_bd step rise R c
  obtain ⟨V, eV⟩ : ∃ V, V = volume step rise R c := ⟨_, rfl⟩
  rw [← eV] at hvol ⊢
  have EV := hide eV
  clear eV
  obtain ⟨v1, v2'⟩ := hvol
  have d0 := OwnV.cell (unhide HD3) (i := 0) rfl
  have a0 := OwnV.cell (unhide HA3) (i := 0) rfl
  have a1 := OwnV.cell (unhide HA3) (i := 1) rfl
  have fa := (unhide HA3).frozen
  have done : ∀ w', Below w3.heap.size w3 w' → Below w.heap.size w ((w'.setCell ⟨w.heap.size + 1, 0, none⟩ (.int .i64 0)).setCell ⟨w.heap.size + 1, 1, none⟩ (.int .i64 0)) := fun w' hb => ((Below.step (unhide HW3) hb).setCell (by show _ ≤ w.heap.size + 1; omega) _).setCell (by show _ ≤ w.heap.size + 1; omega) _
  have HDone := hide done
  clear done
  cases k1 : massesB L with
  | false =>
    have HK : Hid (metaB step rise R c L T = false) := by show _ = _; simp [metaB, k1]
    have HM : Hid (metaV step rise R c L T = (0, 0)) := by show _ = _; rw [metaV, unhide HK]; rfl
    go_wp2
    refine bodyPost_ret (v := .tuple #[v2 (0, 0), .bool false]) (by simp [results, Try.results68, go_sem, a0, a1]) rfl ⟨by rw [unhide HM, unhide HK], unhide HDone _ (Below.refl _ _)⟩
  | true =>
  by_cases k2 : Wt = 0
  · have HK : Hid (metaB step rise R c L T = false) := by show _ = _; simp [metaB, ← unhide EL, k2]
    have HM : Hid (metaV step rise R c L T = (0, 0)) := by show _ = _; rw [metaV, unhide HK]; rfl
    subst k2
    go_wp2
    refine bodyPost_ret (v := .tuple #[v2 (0, 0), .bool false]) (by simp [results, Try.results68, go_sem, a0, a1]) rfl ⟨by rw [unhide HM, unhide HK], unhide HDone _ (Below.refl _ _)⟩
  by_cases k3 : V = 0
  · have HK : Hid (metaB step rise R c L T = false) := by show _ = _; simp [metaB, ← unhide EV, k3]
    have HM : Hid (metaV step rise R c L T = (0, 0)) := by show _ = _; rw [metaV, unhide HK]; rfl
    subst k3
    go_wp2
    refine bodyPost_ret (v := .tuple #[v2 (0, 0), .bool false]) (by simp [results, Try.results68, go_sem, a0, a1]) rfl ⟨by rw [unhide HM, unhide HK], unhide HDone _ (Below.refl _ _)⟩
  have z2 : (Wt == 0) = false := by simp [k2]
  have z3 : (V == 0) = false := by simp [k3]
  go_wp2_with fail
  refine (tanksOk_any _ T _ ((unhide HT).below (unhide HW3))).mono ?_
  rintro e w4 ⟨rfl, hb⟩
  have HW4 := hide (Below.step (unhide HW3) hb)
  have HB4 := hide (OwnV.step (unhide HB3) hb)
  have HA4 := hide (OwnV.step (unhide HA3) hb)
  have HD4 := hide (OwnV.step (unhide HD3) hb)
  have HB := hide hb
  clear hb HB3 HA3 HD3 d0 a0 a1 fa
  have a0 := OwnV.cell (unhide HA4) (i := 0) rfl
  have a1 := OwnV.cell (unhide HA4) (i := 1) rfl
  have fa := (unhide HA4).frozen
  cases k4 : tanksB T with
  | false =>
    have HK : Hid (metaB step rise R c L T = false) := by show _ = _; simp [metaB, k4]
    have HM : Hid (metaV step rise R c L T = (0, 0)) := by show _ = _; rw [metaV, unhide HK]; rfl
    go_wp2
    refine bodyPost_ret (v := .tuple #[v2 (0, 0), .bool false]) (by simp [results, Try.results68, go_sem, a0, a1]) rfl ⟨by rw [unhide HM, unhide HK], unhide HDone _ (unhide HB)⟩
  | true =>
  have HK : Hid (metaB step rise R c L T = true) := by show _ = _; simp [metaB, ← unhide EV, ← unhide EL, k1, k2, k3, k4]
  have H4 := hide k4
  clear k1 HDone HB HW3 a0 a1 fa
  have hH := height_bd step rise R c
  have hI := inertia_bd step rise R c
  have hS := surf_bd (unhide H4)
  have S1 := hide fun x : Gr w4 => implHeight4_any step rise _ R c x.val (((unhide HV).below (unhide HW4)).below x.ok)
  have S2 := hide fun x : Gr w4 => implInertia3_any step rise _ R c x.val (((unhide HV).below (unhide HW4)).below x.ok)
  have S3 := hide fun x : Gr w4 => surfaces_any _ T x.val (((unhide HT).below (unhide HW4)).below x.ok) (unhide H4)
  have EN : Hid (metaNum step rise R c L T = (3 * height step rise R c + 4 * inertia step rise R c - surf T) * Wt - 6 * V * MZ) := by show _ = _; rw [metaNum, ← unhide EL, ← unhide EV]
  have ED : Hid (metaDen step rise R c L = 6 * V * Wt) := by show _ = _; rw [metaDen, ← unhide EL, ← unhide EV]
  generalize height step rise R c = Hh at *
  generalize inertia step rise R c = Ii at *
  generalize surf T = Ss at *
  obtain ⟨U, eU⟩ : ∃ U, U = 3 * Hh + 4 * Ii - Ss := ⟨_, rfl⟩
  have q1 : IntKind.i64.wrap (3 * Hh) = 3 * Hh := by rw [IntKind.wrap_i64]; omega
  have q2 : IntKind.i64.wrap (4 * Ii) = 4 * Ii := by rw [IntKind.wrap_i64]; omega
  have q3 : IntKind.i64.wrap (3 * Hh + 4 * Ii) = 3 * Hh + 4 * Ii := by rw [IntKind.wrap_i64]; omega
  have q4 : IntKind.i64.wrap (3 * Hh + 4 * Ii - Ss) = U := by rw [IntKind.wrap_i64]; omega
  have q5 : IntKind.i64.wrap (6 * V) = 6 * V := by rw [IntKind.wrap_i64]; omega
  have p1 := prod_bd (a := U) (b := Wt) (A := 70000000000) (B := 400000) (by omega) (by omega) l1 l2
  have p2 := prod_bd (a := 6 * V) (b := MZ) (A := 288000000) (B := 400000000) (by omega) (by omega) l3 l4
  have p3 := prod_bd (a := 6 * V) (b := Wt) (A := 288000000) (B := 400000) (by omega) (by omega) l1 l2
  have p4 : 0 < 6 * V * Wt := Int.mul_pos (by omega) (by omega)
  rw [← eU] at EN
  have r0 := fun x : Gr w4 => gr_cell (OwnV.cell (unhide HB4) (i := 0) rfl) x
  have r1 := fun x : Gr w4 => gr_cell (OwnV.cell (unhide HB4) (i := 1) rfl) x
  have r2 := fun x : Gr w4 => gr_cell (OwnV.cell (unhide HB4) (i := 2) rfl) x
  have gsome := gr_some w4
  clear eU
  go_wp2
  refine wp_region_grown (by kernel_rfl) (by kernel_rfl) ?_
  repeat (go_big_quiet_step (fail))
  go_big_quiet_want
  go_big_quiet_op
  go_big_quiet_call (exact calls_grown (unhide S1 _))
  repeat (go_big_quiet_step (fail))
  go_big_quiet_want
  go_big_quiet_op
  go_big_quiet_call (exact calls_grown (unhide S2 _))
  repeat (go_big_quiet_step (fail))
  go_big_quiet_want
  go_big_quiet_op
  go_big_quiet_call (exact calls_grown (unhide S3 _))
  repeat (go_big_quiet_step (fail))
  refine wpQuiet_nil ?_
  intro w5 hw5
  obtain ⟨z, hz⟩ := hw5
  have hb5 : Below w4.heap.size w4 w5 := hz ▸ z.ok
  clear hz r0 r1 r2 S1 S2 S3 gsome z
  have HW5 := hide (Below.step (unhide HW4) hb5)
  have HA5 := hide (OwnV.step (unhide HA4) hb5)
  have HD5 := hide (OwnV.step (unhide HD4) hb5)
  clear hb5 HB4 HA4 HD4 HW4
  have d0 := OwnV.cell (unhide HD5) (i := 0) rfl
  have d2 := OwnV.cell (unhide HD5) (i := 2) rfl
  have HLow := hide (lowest_any (U * Wt - 6 * V * MZ) (6 * V * Wt) w5 (by omega) (by omega) p4 (by omega))
  rw [Int.mul_comm (6 * V) MZ] at HLow EN p2
  have EM : Hid (metaV step rise R c L T = lowV (U * Wt - MZ * (6 * V)) (6 * V * Wt)) := by show _ = _; rw [metaV, unhide HK, if_pos rfl, unhide EN, unhide ED]
  clear EN ED
  generalize g1 : U * Wt = P1 at *
  generalize g2 : MZ * (6 * V) = P2 at *
  generalize g3 : 6 * V * Wt = P3 at *
  go_wp2_with fail
  clear d0 d2
  refine (unhide HLow).mono ?_
  rintro e w6 ⟨rfl, hb⟩
  have HW6 := hide (Below.step (unhide HW5) hb)
  have HA6 := hide (OwnV.step (unhide HA5) hb)
  clear hb HW5 HA5 HD5 HLow
  generalize lowV (P1 - P2) P3 = X at *
  obtain ⟨N, D⟩ := X
  have a0 := OwnV.cell (unhide HA6) (i := 0) rfl
  have a1 := OwnV.cell (unhide HA6) (i := 1) rfl
  have fa := (unhide HA6).frozen
  go_wp2
  refine bodyPost_ret (v := .tuple #[v2 (N, D), .bool true]) (by simp [results, Try.results68, go_sem, a0, a1]) rfl ⟨by rw [unhide EM, unhide HK], ?_⟩
  exact ((unhide HW6).setCell (by show _ ≤ w.heap.size + 1; omega) _).setCell (by show _ ≤ w.heap.size + 1; omega) _

end Go.Proofs.Yticcjdcglfiggaa

/- The contract of the specification's Metacentre: it tells the metacentre. -/
namespace Go.Proofs.Yticcjdcglfiggaa
open Go.RowKit

set_option maxHeartbeats 1600000 in
theorem specMetacentre_any (step rise : Int) (v : Value) (R : List (List Int)) (c : Int) (u : Value) (L : List I3) (t : Value) (T : List I2) (w : World) (h : RowsIn w v R) (hL : R3 w u L) (hT : R2 w t T) :
    Calls Try.prog 84 #[hullV step rise v, .int .i64 c, u, t] w fun e w' => e = .returned (.tuple #[v2 (metaV step rise R c L T), .bool (metaB step rise R c L T)]) ∧ Below w.heap.size w w' := by
  have HV := hide h
  have HU := hide hL
  have HT := hide hT
  obtain ⟨ao, cap, rfl, hl, hm, hc⟩ := h
  obtain ⟨ao1, cap1, rfl, hl1, hm1, hc1⟩ := hL
  obtain ⟨ao2, cap2, rfl, hl2, hm2, hc2⟩ := hT
  clear hc hl hm hc1 hl1 hm1 hc2 hl2 hm2
  unfold hullV
  obtain ⟨W0, eW0⟩ : ∃ W, W = (w.alloc (.cells #[.int .i64 step, .int .i64 rise, .slice ao R.length cap] 26)).alloc (.cells #[.int .i64 0, .int .i64 0] 44) := ⟨_, rfl⟩
  have HW0 : Hid (Below w.heap.size w W0) := by show Below _ _ _; rw [eW0]; exact Below.step (Below.alloc1 _ _) (Below.alloc1 _ _)
  have HB0 : Hid (OwnV W0 w.heap.size [.int .i64 step, .int .i64 rise, .slice ao R.length cap]) := by show OwnV _ _ _; rw [eW0]; exact OwnV.alloc (ownV_alloc w #[.int .i64 step, .int .i64 rise, .slice ao R.length cap] _) _
  have HA0 : Hid (OwnV W0 (w.heap.size + 1) [.int .i64 0, .int .i64 0]) := by
    show OwnV _ _ _
    rw [eW0]
    have := ownV_alloc (w.alloc (.cells #[.int .i64 step, .int .i64 rise, .slice ao R.length cap] 26)) #[.int .i64 0, .int .i64 0] 44
    simpa using this
  go_enter Try.func84, Try.ntmps84
  go_wp2_with fail
  rw [← eW0]
  have EW0 := hide eW0
  clear eW0
  refine (specLoadOf_any _ L _ ((unhide HU).below (unhide HW0))).mono ?_
  rintro e w1 ⟨rfl, hb⟩
  have HW1 := hide (Below.step (unhide HW0) hb)
  have HB1 := hide (OwnV.step (unhide HB0) hb)
  have HA1 := hide (OwnV.step (unhide HA0) hb)
  clear hb HW0 HB0 HA0 EW0
  have hld := load_bd L
  obtain ⟨⟨Wt, MX, MZ⟩, el⟩ : ∃ x, x = load L := ⟨_, rfl⟩
  rw [← el] at hld ⊢
  dsimp only at hld
  have EL := hide el
  clear el
  obtain ⟨⟨l1, l2⟩, l3, l4⟩ := hld
  have A2 := Below.alloc1 w1 (.cells #[.int .i64 Wt, .int .i64 MX, .int .i64 MZ] 93)
  have HW2 := hide (Below.step (unhide HW1) A2)
  have HB2 := hide (OwnV.step (unhide HB1) A2)
  have HA2 := hide (OwnV.step (unhide HA1) A2)
  have HD2 := hide (ownV_alloc w1 #[.int .i64 Wt, .int .i64 MX, .int .i64 MZ] 93)
  clear A2 HW1
  have b0 := OwnV.cell (unhide HB1) (i := 0) rfl
  have b1 := OwnV.cell (unhide HB1) (i := 1) rfl
  have b2 := OwnV.cell (unhide HB1) (i := 2) rfl
  have hz1 := (unhide HB1).lt
  go_wp2_with fail
  clear b0 b1 b2 HB1 HA1
  refine (specVolume2_any step rise _ R c _ ((unhide HV).below (unhide HW2))).mono ?_
  rintro e w3 ⟨rfl, hb⟩
  have HW3 := hide (Below.step (unhide HW2) hb)
  have HB3 := hide (OwnV.step (unhide HB2) hb)
  have HA3 := hide (OwnV.step (unhide HA2) hb)
  have HD3 := hide (OwnV.step (unhide HD2) hb)
  clear hb HW2 HB2 HA2 HD2
  have hvol := volume_bd step rise R c
  obtain ⟨V, eV⟩ : ∃ V, V = volume step rise R c := ⟨_, rfl⟩
  rw [← eV] at hvol ⊢
  have EV := hide eV
  clear eV
  obtain ⟨v1, v2'⟩ := hvol
  have d0 := OwnV.cell (unhide HD3) (i := 0) rfl
  have a0 := OwnV.cell (unhide HA3) (i := 0) rfl
  have a1 := OwnV.cell (unhide HA3) (i := 1) rfl
  have fa := (unhide HA3).frozen
  have done : ∀ w', Below w3.heap.size w3 w' → Below w.heap.size w ((w'.setCell ⟨w.heap.size + 1, 0, none⟩ (.int .i64 0)).setCell ⟨w.heap.size + 1, 1, none⟩ (.int .i64 0)) := fun w' hb => ((Below.step (unhide HW3) hb).setCell (by show _ ≤ w.heap.size + 1; omega) _).setCell (by show _ ≤ w.heap.size + 1; omega) _
  have HDone := hide done
  clear done
  by_cases k3 : V = 0
  · have HK : Hid (metaB step rise R c L T = false) := by show _ = _; simp [metaB, ← unhide EV, k3]
    have HM : Hid (metaV step rise R c L T = (0, 0)) := by show _ = _; rw [metaV, unhide HK]; rfl
    subst k3
    go_wp2
    refine bodyPost_ret (v := .tuple #[v2 (0, 0), .bool false]) (by simp [results, Try.results84, go_sem, a0, a1]) rfl ⟨by rw [unhide HM, unhide HK], unhide HDone _ (Below.refl _ _)⟩
  have z3 : (V == 0) = false := by simp [k3]
  cases k1 : massesB L with
  | false =>
    have HK : Hid (metaB step rise R c L T = false) := by show _ = _; simp [metaB, k1]
    have HM : Hid (metaV step rise R c L T = (0, 0)) := by show _ = _; rw [metaV, unhide HK]; rfl
    go_wp2
    refine bodyPost_ret (v := .tuple #[v2 (0, 0), .bool false]) (by simp [results, Try.results84, go_sem, a0, a1]) rfl ⟨by rw [unhide HM, unhide HK], unhide HDone _ (Below.refl _ _)⟩
  | true =>
  by_cases k2 : Wt = 0
  · have HK : Hid (metaB step rise R c L T = false) := by show _ = _; simp [metaB, ← unhide EL, k2]
    have HM : Hid (metaV step rise R c L T = (0, 0)) := by show _ = _; rw [metaV, unhide HK]; rfl
    subst k2
    go_wp2
    refine bodyPost_ret (v := .tuple #[v2 (0, 0), .bool false]) (by simp [results, Try.results84, go_sem, a0, a1]) rfl ⟨by rw [unhide HM, unhide HK], unhide HDone _ (Below.refl _ _)⟩
  have z2 : (Wt == 0) = false := by simp [k2]
  go_wp2_with fail
  refine (l2Tanks_any _ T _ ((unhide HT).below (unhide HW3))).mono ?_
  rintro e w4 ⟨rfl, hb⟩
  have HW4 := hide (Below.step (unhide HW3) hb)
  have HB4 := hide (OwnV.step (unhide HB3) hb)
  have HA4 := hide (OwnV.step (unhide HA3) hb)
  have HD4 := hide (OwnV.step (unhide HD3) hb)
  have HB := hide hb
  clear hb HB3 HA3 HD3 d0 a0 a1 fa
  have a0 := OwnV.cell (unhide HA4) (i := 0) rfl
  have a1 := OwnV.cell (unhide HA4) (i := 1) rfl
  have fa := (unhide HA4).frozen
  cases k4 : tanksB T with
  | false =>
    have HK : Hid (metaB step rise R c L T = false) := by show _ = _; simp [metaB, k4]
    have HM : Hid (metaV step rise R c L T = (0, 0)) := by show _ = _; rw [metaV, unhide HK]; rfl
    go_wp2
    refine bodyPost_ret (v := .tuple #[v2 (0, 0), .bool false]) (by simp [results, Try.results84, go_sem, a0, a1]) rfl ⟨by rw [unhide HM, unhide HK], unhide HDone _ (unhide HB)⟩
  | true =>
  have HK : Hid (metaB step rise R c L T = true) := by show _ = _; simp [metaB, ← unhide EV, ← unhide EL, k1, k2, k3, k4]
  have H4 := hide k4
  clear k1 HDone HB HW3 a0 a1 fa
  have hlenT := (tanksB_at (unhide H4)).1
  have HC : Hid (∀ i, i < T.length → ∃ b o, ao2 = some ⟨b, o, none⟩ ∧ ∀ j, j < 2 → w4.cell? ⟨b, o + (i * 2 + j), none⟩ = some (e2 (T.getD i default) j)) := by
    obtain ⟨ao', cap', e, _, _, hc⟩ := (unhide HT).below (unhide HW4)
    simp only [Value.slice.injEq] at e
    obtain ⟨rfl, _, _⟩ := e
    exact hc
  go_wp2
  go_loopg [13, 14] T.length (fun g sv i wr => w4 = wr ∧ ∃ k : Nat, k ≤ T.length ∧ g = T.length - k ∧ i = .int .i64 k ∧ sv = .int .i64 (sumTo (surfF T) k))
  case atStart => exact ⟨rfl, 0, Nat.zero_le _, rfl, rfl, rfl⟩
  case round =>
    obtain ⟨rfl, k, hk, rfl, rfl, rfl⟩ := hrel
    by_cases hkn : k < T.length
    · obtain ⟨b, o, x, y, rfl, hc0, hc1, EX⟩ := rec2At (unhide HC) hkn
      have hs := surf_to (unhide H4) hk
      obtain ⟨⟨p1, p2⟩, ⟨p3, p4⟩, p5, p6⟩ := surf_term (x := x) (y := y) (by rw [← unhide EX]; exact (tanksB_at (unhide H4)).2 k hkn)
      have HN : Hid (sumTo (surfF T) (k + 1) = sumTo (surfF T) k + x * y * y * y) := by
        show _ = _
        simp only [sumTo, surfF, unhide EX]
      clear EX
      generalize sumTo (surfF T) k = A at *
      generalize h1 : x * y = xy at *
      generalize h2 : xy * y = xyy at *
      generalize h3 : xyy * y = xyyy at *
      go_wp2
      go_roundg (T.length - (k + 1))
      case measure => omega
      case rel => exact ⟨rfl, k + 1, by omega, rfl, by go_num, by rw [unhide HN]⟩
    have hkk : k = T.length := by omega
    subst hkk
    have ES : Hid (surf T = sumTo (surfF T) T.length) := hide rfl
    have hH := height_bd step rise R c
    have hI := inertia_bd step rise R c
    have hS := surf_bd (unhide H4)
    have S1 := hide fun x : Gr w4 => specHeight4_any step rise _ R c x.val (((unhide HV).below (unhide HW4)).below x.ok)
    have S2 := hide fun x : Gr w4 => specInertia3_any step rise _ R c x.val (((unhide HV).below (unhide HW4)).below x.ok)
    have EN : Hid (metaNum step rise R c L T = (3 * height step rise R c + 4 * inertia step rise R c - surf T) * Wt - 6 * V * MZ) := by show _ = _; rw [metaNum, ← unhide EL, ← unhide EV]
    have ED : Hid (metaDen step rise R c L = 6 * V * Wt) := by show _ = _; rw [metaDen, ← unhide EL, ← unhide EV]
    generalize height step rise R c = Hh at *
    generalize inertia step rise R c = Ii at *
    rw [unhide ES] at hS EN
    generalize sumTo (surfF T) T.length = Ss at *
    obtain ⟨U, eU⟩ : ∃ U, U = 3 * Hh + 4 * Ii - Ss := ⟨_, rfl⟩
    have q1 : IntKind.i64.wrap (3 * Hh) = 3 * Hh := by rw [IntKind.wrap_i64]; omega
    have q2 : IntKind.i64.wrap (4 * Ii) = 4 * Ii := by rw [IntKind.wrap_i64]; omega
    have q3 : IntKind.i64.wrap (3 * Hh + 4 * Ii) = 3 * Hh + 4 * Ii := by rw [IntKind.wrap_i64]; omega
    have q4 : IntKind.i64.wrap (3 * Hh + 4 * Ii - Ss) = U := by rw [IntKind.wrap_i64]; omega
    have q5 : IntKind.i64.wrap (6 * V) = 6 * V := by rw [IntKind.wrap_i64]; omega
    have p1 := prod_bd (a := U) (b := Wt) (A := 70000000000) (B := 400000) (by omega) (by omega) l1 l2
    have p2 := prod_bd (a := 6 * V) (b := MZ) (A := 288000000) (B := 400000000) (by omega) (by omega) l3 l4
    have p3 := prod_bd (a := 6 * V) (b := Wt) (A := 288000000) (B := 400000) (by omega) (by omega) l1 l2
    have p4 : 0 < 6 * V * Wt := Int.mul_pos (by omega) (by omega)
    rw [← eU] at EN
    have r0 := fun x : Gr w4 => gr_cell (OwnV.cell (unhide HB4) (i := 0) rfl) x
    have r1 := fun x : Gr w4 => gr_cell (OwnV.cell (unhide HB4) (i := 1) rfl) x
    have r2 := fun x : Gr w4 => gr_cell (OwnV.cell (unhide HB4) (i := 2) rfl) x
    have gsome := gr_some w4
    clear eU
    go_wp2
    refine wp_region_grown (by kernel_rfl) (by kernel_rfl) ?_
    repeat (go_big_quiet_step (fail))
    go_big_quiet_want
    go_big_quiet_op
    go_big_quiet_call (exact calls_grown (unhide S1 _))
    repeat (go_big_quiet_step (fail))
    go_big_quiet_want
    go_big_quiet_op
    go_big_quiet_call (exact calls_grown (unhide S2 _))
    repeat (go_big_quiet_step (fail))
    refine wpQuiet_nil ?_
    intro w5 hw5
    obtain ⟨z, hz⟩ := hw5
    have hb5 : Below w4.heap.size w4 w5 := hz ▸ z.ok
    clear hz r0 r1 r2 S1 S2 gsome z
    have HW5 := hide (Below.step (unhide HW4) hb5)
    have HA5 := hide (OwnV.step (unhide HA4) hb5)
    have HD5 := hide (OwnV.step (unhide HD4) hb5)
    clear hb5 HB4 HA4 HD4 HW4
    have d0 := OwnV.cell (unhide HD5) (i := 0) rfl
    have d2 := OwnV.cell (unhide HD5) (i := 2) rfl
    have HLow := hide (l2Frac_any (U * Wt - 6 * V * MZ) (6 * V * Wt) w5 (by omega) (by omega) p4 (by omega))
    have EM : Hid (metaV step rise R c L T = lowV (U * Wt - 6 * V * MZ) (6 * V * Wt)) := by show _ = _; rw [metaV, unhide HK, if_pos rfl, unhide EN, unhide ED]
    clear EN ED
    generalize g1 : U * Wt = P1 at *
    generalize g2 : 6 * V * MZ = P2 at *
    generalize g3 : 6 * V * Wt = P3 at *
    go_wp2_with fail
    clear d0 d2
    refine (unhide HLow).mono ?_
    rintro e w6 ⟨rfl, hb⟩
    have HW6 := hide (Below.step (unhide HW5) hb)
    have HA6 := hide (OwnV.step (unhide HA5) hb)
    clear hb HW5 HA5 HD5 HLow
    generalize lowV (P1 - P2) P3 = X at *
    obtain ⟨N, D⟩ := X
    have a0 := OwnV.cell (unhide HA6) (i := 0) rfl
    have a1 := OwnV.cell (unhide HA6) (i := 1) rfl
    have fa := (unhide HA6).frozen
    go_wp2
    refine bodyPost_ret (v := .tuple #[v2 (N, D), .bool true]) (by simp [results, Try.results84, go_sem, a0, a1]) rfl ⟨by rw [unhide EM, unhide HK], ?_⟩
    exact ((unhide HW6).setCell (by show _ ≤ w.heap.size + 1; omega) _).setCell (by show _ ≤ w.heap.size + 1; omega) _

end Go.Proofs.Yticcjdcglfiggaa

/- Own words of this claim's proofs: of what was there only some blocks have turned. -/
namespace Go.Proofs.Yticcjdcglfiggaa
open Go.RowKit

/-- Of what was there only blocks of T have turned. -/
structure Kept (T : Nat → Prop) (w w' : World) : Prop where
  os : w'.os = w.os
  tape : w'.tape = w.tape
  output : w'.output = w.output
  size : w.heap.size ≤ w'.heap.size
  block : ∀ k, k < w.heap.size → ¬ T k → w'.heap[k]? = w.heap[k]?

theorem Kept.refl (T : Nat → Prop) (w : World) : Kept T w w := ⟨rfl, rfl, rfl, Nat.le_refl _, fun _ _ _ => rfl⟩

theorem Kept.trans {T : Nat → Prop} {a b c : World} (h : Kept T a b) (k : Kept T b c) : Kept T a c :=
  ⟨k.os.trans h.os, k.tape.trans h.tape, k.output.trans h.output, Nat.le_trans h.size k.size, fun i hi ht => (k.block i (Nat.lt_of_lt_of_le hi h.size) ht).trans (h.block i hi ht)⟩

theorem Kept.mono {T T' : Nat → Prop} {w w' : World} (h : Kept T w w') (ht : ∀ k, k < w.heap.size → T k → T' k) : Kept T' w w' := ⟨h.os, h.tape, h.output, h.size, fun k hk hn => h.block k hk (fun x => hn (ht k hk x))⟩

theorem Kept.below {T : Nat → Prop} {w w' : World} {B : Nat} (h : Kept T w w') (hB : B ≤ w.heap.size) (ht : ∀ k, T k → B ≤ k) : Below B w w' :=
  ⟨h.os, h.tape, h.output, h.size, fun k hk => h.block k (by omega) (fun x => by have := ht k x; omega)⟩

theorem kept_of_below {T : Nat → Prop} {w w' : World} (h : Below w.heap.size w w') : Kept T w w' := ⟨h.os, h.tape, h.output, h.size, fun k hk _ => h.block k hk⟩

theorem Kept.setCell {T : Nat → Prop} {a w : World} (h : Kept T a w) {p : Addr} (hp : T p.block) (u : Value) : Kept T a (w.setCell p u) :=
  h.trans ⟨rfl, rfl, rfl, by simp [World.setCell], fun k _ hk => Below.heap_setCell _ _ _ _ (fun e => hk (e ▸ hp))⟩

theorem OwnV.kept {T : Nat → Prop} {w w' : World} {g : Nat} {vs : List Value} (h : OwnV w g vs) (hk : Kept T w w') (hg : ¬ T g) : OwnV w' g vs := h.of_block (hk.block g h.lt hg)

theorem Box3.kept {T : Nat → Prop} {w w' : World} {g : Nat} {x y z : Value} (h : Box3 w g x y z) (hk : Kept T w w') (hg : ¬ T g) : Box3 w' g x y z := by
  have e := hk.block g (lt_of_cell h.c0) hg
  exact ⟨(World.cell?_of_block (w := w) (a := ⟨g, 0, none⟩) e).trans h.c0, (World.cell?_of_block (w := w) (a := ⟨g, 1, none⟩) e).trans h.c1, (World.cell?_of_block (w := w) (a := ⟨g, 2, none⟩) e).trans h.c2⟩

end Go.Proofs.Yticcjdcglfiggaa

/- Contracts of the laws' own markers and holders: markIntS, heldIntS, markIntSS, heldIntSS, markHull, heldHull. -/
namespace Go.Proofs.Yticcjdcglfiggaa
open Go.RowKit

/-- k, k + 1, .. : n numbers. -/
def marks (k : Int) (n : Nat) : List Int := (List.range n).map fun i : Nat => k + (i : Int)

theorem marks_len (k : Int) (n : Nat) : (marks k n).length = n := by simp [marks]
theorem marks_get (k : Int) {n i : Nat} (h : i < n) : (marks k n).getD i 0 = k + i := by simp [marks, List.getD, h]

/-- i of n numbers are marked. -/
def midway (xs : List Int) (k : Int) (i : Nat) : List Int := (List.range xs.length).map fun j : Nat => if j < i then k + (j : Int) else xs.getD j 0

theorem midway_len (xs : List Int) (k : Int) (i : Nat) : (midway xs k i).length = xs.length := by simp [midway]

theorem midway_zero (xs : List Int) (k : Int) : midway xs k 0 = xs := by
  apply List.ext_getElem
  · simp [midway]
  · intro i h1 h2
    simp [midway, List.getElem?_eq_getElem h2]

theorem midway_step (xs : List Int) (k : Int) (i : Nat) : (midway xs k i).set i (k + i) = midway xs k (i + 1) := by
  apply List.ext_getElem
  · simp [midway]
  · intro j h1 h2
    rw [List.getElem_set]
    simp only [midway, List.getElem_map, List.getElem_range]
    by_cases e : i = j
    · subst e; simp
    · rw [if_neg e]
      by_cases hlt : j < i
      · rw [if_pos hlt, if_pos (by omega)]
      · rw [if_neg hlt, if_neg (by omega)]

theorem midway_done (xs : List Int) (k : Int) : midway xs k xs.length = marks k xs.length := by
  unfold midway marks
  refine List.map_congr_left fun j hj => ?_
  rw [if_pos (List.mem_range.1 hj)]

set_option maxHeartbeats 800000 in
theorem markIntS_any (ao : Option Addr) (cap : Nat) (xs : List Int) (k : Int) (g : Nat) (w : World) (h : xs ≠ [] → ao = some ⟨g, 0, none⟩ ∧ OwnV w g (ints xs)) (hn : xs.length ≤ 1048576) (hk0 : 0 ≤ k) (hk1 : k ≤ 4611686018427387904) :
    Calls Try.prog 100 #[.slice ao xs.length cap, .int .i64 k] w fun e w' => e = .returned (.int .i64 (k + xs.length)) ∧ Kept (fun b => b = g ∧ xs ≠ []) w w' ∧ (xs ≠ [] → OwnV w' g (ints (marks k xs.length))) := by
  have HH := hide h
  clear h
  go_enter Try.func100, Try.ntmps100
  go_wp2
  go_loopg [1, 5] xs.length (fun gh kv iv wr => ∃ i : Nat, i ≤ xs.length ∧ gh = xs.length - i ∧ iv = .int .i64 i ∧ kv = .int .i64 (k + i) ∧ Kept (fun b => b = g ∧ xs ≠ []) w wr ∧ (xs ≠ [] → OwnV wr g (ints (midway xs k i))))
  case atStart => exact ⟨0, Nat.zero_le _, rfl, rfl, by go_num, Kept.refl _ _, fun hne => by rw [midway_zero]; exact (unhide HH hne).2⟩
  case round =>
    obtain ⟨i, hi, rfl, rfl, rfl, hK, hO⟩ := hrel
    by_cases hin : i < xs.length
    · have hne : xs ≠ [] := fun e => by rw [e] at hin; simp at hin
      obtain ⟨rfl, _⟩ := unhide HH hne
      have ho := hO hne
      have g1 : wr.cell? ⟨g, i, none⟩ = some (.int .i64 ((midway xs k i).getD i 0)) := ho.cell (ints_get _ (by rw [midway_len]; exact hin))
      have g2 : wr.frozen? ⟨g, i, none⟩ = false := ho.frozen i
      have HO' := hide (ho.set i (.int .i64 (k + i)) (by rw [ints_length, midway_len]; exact hin))
      have HK := hide hK
      rw [ints_set, midway_step] at HO'
      clear ho hO hK HH
      generalize (midway xs k i).getD i 0 = x at *
      go_wp2
      go_roundg (xs.length - (i + 1))
      case measure => omega
      case rel => exact ⟨i + 1, by omega, rfl, by go_num, by go_num, (unhide HK).setCell ⟨rfl, hne⟩ _, fun _ => unhide HO'⟩
    · have hii : i = xs.length := by omega
      subst hii
      have HK := hide hK
      have HO := hide hO
      clear hK hO
      go_wp2
      go_ret
      exact ⟨rfl, unhide HK, fun hne => by rw [← midway_done]; exact unhide HO hne⟩

set_option maxHeartbeats 800000 in
theorem heldIntS_any (v : Value) (xs : List Int) (k : Int) (w : World) (h : IntsIn w v xs) (hx : xs = marks k xs.length) (hn : xs.length ≤ 1048576) (hk0 : 0 ≤ k) (hk1 : k ≤ 4611686018427387904) :
    Calls Try.prog 101 #[v, .int .i64 k] w fun e w' => e = .returned (.int .i64 (k + xs.length)) ∧ w = w' := by
  obtain ⟨ao, cap, rfl, hl, hm, hc⟩ := h
  have HC := hide hc
  have HX : Hid (∀ i, i < xs.length → xs.getD i 0 = k + i) := fun i hi => by rw [hx]; exact marks_get k hi
  clear hc hl hm hx
  go_enter Try.func101, Try.ntmps101
  go_wp2
  go_loopg [1, 5] xs.length (fun gh kv iv wr => w = wr ∧ ∃ i : Nat, i ≤ xs.length ∧ gh = xs.length - i ∧ iv = .int .i64 i ∧ kv = .int .i64 (k + i))
  case atStart => exact ⟨rfl, 0, Nat.zero_le _, rfl, rfl, by go_num⟩
  case round =>
    obtain ⟨rfl, i, hi, rfl, rfl, rfl⟩ := hrel
    by_cases hin : i < xs.length
    · obtain ⟨b, o, rfl, hcell⟩ := unhide HC i hin
      rw [unhide HX i hin] at hcell
      go_wp2
      go_roundg (xs.length - (i + 1))
      case measure => omega
      case rel => exact ⟨rfl, i + 1, by omega, rfl, by go_num, by go_num⟩
    · have hii : i = xs.length := by omega
      subst hii
      go_wp2
      go_ret
      exact ⟨rfl, rfl⟩

end Go.Proofs.Yticcjdcglfiggaa

/- Contracts of the laws' own markers and holders of lists of rows: markIntSS, heldIntSS, markHull, heldHull. -/
namespace Go.Proofs.Yticcjdcglfiggaa
open Go.RowKit

/-- How many numbers the first rows hold. -/
def pre (R : List (List Int)) : Nat → Nat
  | 0 => 0
  | r + 1 => pre R r + (R.getD r []).length

theorem pre_le {R : List (List Int)} {n : Nat} (h : ∀ i, i < n → (R.getD i []).length ≤ 1048576) : ∀ r, r ≤ n → pre R r ≤ r * 1048576
  | 0, _ => by simp [pre]
  | r + 1, hr => by
    have h1 := pre_le h r (by omega)
    have h2 := h r (by omega)
    simp only [pre]
    omega

/-- The rows, marked from k on. -/
def mrows (k : Int) (R : List (List Int)) : List (List Int) := (List.range R.length).map fun r : Nat => marks (k + (pre R r : Int)) (R.getD r []).length

theorem mrows_len (k : Int) (R : List (List Int)) : (mrows k R).length = R.length := by simp [mrows]
theorem mrows_get (k : Int) (R : List (List Int)) {r : Nat} (h : r < R.length) : (mrows k R).getD r [] = marks (k + (pre R r : Int)) (R.getD r []).length := by simp [mrows, List.getD, h]
theorem mrows_row (k : Int) (R : List (List Int)) {r : Nat} (h : r < R.length) : ((mrows k R).getD r []).length = (R.getD r []).length := by rw [mrows_get k R h, marks_len]

theorem pre_congr {R R' : List (List Int)} {n : Nat} (h : ∀ r, r < n → (R.getD r []).length = (R'.getD r []).length) : ∀ r, r ≤ n → pre R r = pre R' r
  | 0, _ => rfl
  | r + 1, hr => by simp only [pre]; rw [pre_congr h r (by omega), h r (by omega)]

theorem pre_mrows (k : Int) (R : List (List Int)) {r : Nat} (h : r ≤ R.length) : pre (mrows k R) r = pre R r := pre_congr (fun _ hr => mrows_row k R hr) r h

theorem tops_congr {G C : Nat → Nat} {R R' : List (List Int)} (hl : R.length = R'.length) (h : ∀ r, r < R.length → (R.getD r []).length = (R'.getD r []).length) : tops G C R = tops G C R' := by
  unfold tops
  rw [← hl]
  exact List.map_congr_left fun r hr => by rw [h r (List.mem_range.1 hr)]

theorem ne_nil_of_len {xs : List Int} {n : Nat} (h : xs.length = n) (hn : 0 < n) : xs ≠ [] := fun e => by rw [e] at h; simp at h; omega

set_option maxHeartbeats 800000 in
theorem markIntSS_any (B g cap : Nat) (G C : Nat → Nat) (R : List (List Int)) (k : Int) (w : World) (h : OwnRows B w g G C R) (hn : R.length ≤ 1048576) (hl : ∀ i, i < R.length → (R.getD i []).length ≤ 1048576) (hk0 : 0 ≤ k) (hk1 : k ≤ 1048576) :
    Calls Try.prog 74 #[.slice (some ⟨g, 0, none⟩) R.length cap, .int .i64 k] w fun e w' => e = .returned (.int .i64 (k + pre R R.length)) ∧ Kept (fun b => ∃ r, r < R.length ∧ b = G r) w w' ∧ OwnRows B w' g G C (mrows k R) := by
  have HH := hide h
  have HL := hide hl
  have hpl := pre_le hl
  have HP := hide hpl
  clear h hl hpl
  go_enter Try.func74, Try.ntmps74
  go_wp2
  go_loopg [1, 5] R.length (fun gh kv iv wr => ∃ i : Nat, i ≤ R.length ∧ gh = R.length - i ∧ iv = .int .i64 i ∧ kv = .int .i64 (k + (pre R i : Int)) ∧ Kept (fun b => ∃ r, r < R.length ∧ b = G r) w wr ∧
    (∀ r, r < R.length → OwnV wr (G r) (ints (if r < i then marks (k + (pre R r : Int)) (R.getD r []).length else R.getD r []))))
  case atStart => exact ⟨0, Nat.zero_le _, rfl, rfl, by simp [pre], Kept.refl _ _, fun r hr => by simpa using (unhide HH).rows r hr⟩
  case round =>
    obtain ⟨i, hi, rfl, rfl, rfl, hK, hO⟩ := hrel
    by_cases hin : i < R.length
    · have htop : OwnV wr g (tops G C R) := (unhide HH).top.kept hK (fun ⟨r, hr, e⟩ => ((unhide HH).above r hr).2 e.symm)
      have g1 : wr.cell? ⟨g, i, none⟩ = some (.slice (some ⟨G i, 0, none⟩) (R.getD i []).length (C i)) := htop.cell (tops_get G C R hin)
      have ho : OwnV wr (G i) (ints (R.getD i [])) := by simpa using hO i hin
      have hp1 := unhide HP i hi
      have HM := hide (markIntS_any (some ⟨G i, 0, none⟩) (C i) (R.getD i []) (k + (pre R i : Int)) (G i) wr (fun _ => ⟨rfl, ho⟩) (unhide HL i hin) (by omega) (by omega))
      have EP : Hid ((pre R (i + 1) : Int) = (pre R i : Int) + ((R.getD i []).length : Int)) := by show _ = _; simp [pre]
      have hlen := unhide HL i hin
      have HK := hide hK
      have HO := hide hO
      have Ho := hide ho
      clear hK hO ho htop
      obtain ⟨len, elen⟩ : ∃ len, (R.getD i []).length = len := ⟨_, rfl⟩
      rw [elen] at g1 HM EP hlen
      have EL := hide elen
      clear elen
      go_wp2_with fail
      refine (unhide HM).mono ?_
      rintro e w1 ⟨rfl, hk1', ho1⟩
      have HK1 : Hid (Kept (fun b => ∃ r, r < R.length ∧ b = G r) w w1) := (unhide HK).trans (hk1'.mono (fun b _ ⟨e, _⟩ => ⟨i, hin, e⟩))
      have HO1 : Hid (∀ r, r < R.length → OwnV w1 (G r) (ints (if r < i + 1 then marks (k + (pre R r : Int)) (R.getD r []).length else R.getD r []))) := fun r hr => by
        by_cases e : r = i
        · subst e
          rw [if_pos (by omega)]
          by_cases hne : R.getD r [] = []
          · have hx := (unhide Ho).kept hk1' (fun ⟨_, h⟩ => h hne)
            rw [hne] at hx ⊢
            exact hx
          · rw [unhide EL]; exact ho1 hne
        · have hx := (unhide HO r hr).kept hk1' (fun ⟨h, _⟩ => (unhide HH).apart r i hr hin e h)
          by_cases hlt : r < i
          · rw [if_pos hlt] at hx; rw [if_pos (by omega)]; exact hx
          · rw [if_neg hlt] at hx; rw [if_neg (by omega)]; exact hx
      clear hk1' ho1 HM HK HO Ho g1
      go_wp2
      go_roundg (R.length - (i + 1))
      case measure => omega
      case rel => exact ⟨i + 1, by omega, rfl, by go_num, by rw [unhide EP]; go_num, unhide HK1, unhide HO1⟩
    · have hii : i = R.length := by omega
      subst hii
      have HK := hide hK
      have HO := hide hO
      clear hK hO
      go_wp2
      go_ret
      refine ⟨rfl, unhide HK, (unhide HH).base, ?_, fun r hr => ?_, fun r hr => ?_, fun r hr => ?_, fun r s hr hs => ?_⟩
      · rw [tops_congr (mrows_len k R) (fun r hr => mrows_row k R (by rw [mrows_len] at hr; exact hr))]
        exact (unhide HH).top.kept (unhide HK) (fun ⟨r, hr, e⟩ => ((unhide HH).above r hr).2 e.symm)
      · rw [mrows_len] at hr
        rw [mrows_get k R hr]
        have := unhide HO r hr
        rwa [if_pos hr] at this
      · rw [mrows_len] at hr
        rw [mrows_row k R hr]
        exact (unhide HH).caps r hr
      · rw [mrows_len] at hr
        exact (unhide HH).above r hr
      · rw [mrows_len] at hr hs
        exact (unhide HH).apart r s hr hs

set_option maxHeartbeats 800000 in
theorem heldIntSS_any (v : Value) (R : List (List Int)) (k : Int) (w : World) (h : RowsIn w v R) (hx : ∀ r, r < R.length → R.getD r [] = marks (k + (pre R r : Int)) (R.getD r []).length) (hn : R.length ≤ 1048576) (hl : ∀ i, i < R.length → (R.getD i []).length ≤ 1048576) (hk0 : 0 ≤ k) (hk1 : k ≤ 1048576) :
    Calls Try.prog 75 #[v, .int .i64 k] w fun e w' => e = .returned (.int .i64 (k + pre R R.length)) ∧ w = w' := by
  obtain ⟨ao, cap, rfl, _, _, hc⟩ := h
  have HC := hide hc
  have HX := hide hx
  have HL := hide hl
  have HP := hide (pre_le hl)
  clear hc hx hl
  go_enter Try.func75, Try.ntmps75
  go_wp2
  go_loopg [1, 5] R.length (fun gh kv iv wr => w = wr ∧ ∃ i : Nat, i ≤ R.length ∧ gh = R.length - i ∧ iv = .int .i64 i ∧ kv = .int .i64 (k + (pre R i : Int)))
  case atStart => exact ⟨rfl, 0, Nat.zero_le _, rfl, rfl, by simp [pre]⟩
  case round =>
    obtain ⟨rfl, i, hi, rfl, rfl, rfl⟩ := hrel
    by_cases hin : i < R.length
    · obtain ⟨b, o, ar, m, cr, rfl, hcell, hrow, EM, hm0⟩ := rowAt (unhide HC) hin
      have hp1 := unhide HP i hi
      have HM := hide (heldIntS_any _ _ (k + (pre R i : Int)) w hrow (unhide HX i hin) (unhide HL i hin) (by omega) (by omega))
      have EP : Hid ((pre R (i + 1) : Int) = (pre R i : Int) + ((R.getD i []).length : Int)) := by show _ = _; simp [pre]
      have hlen := unhide HL i hin
      clear hrow
      generalize (R.getD i []).length = len at *
      go_wp2_with fail
      refine (unhide HM).mono ?_
      rintro e w1 ⟨rfl, rfl⟩
      clear HM
      go_wp2
      go_roundg (R.length - (i + 1))
      case measure => omega
      case rel => exact ⟨rfl, i + 1, by omega, rfl, by go_num, by rw [unhide EP]; go_num⟩
    · have hii : i = R.length := by omega
      subst hii
      go_wp2
      go_ret
      exact ⟨rfl, rfl⟩

set_option maxHeartbeats 800000 in
theorem markHull_any (step rise : Int) (B g cap : Nat) (G C : Nat → Nat) (R : List (List Int)) (k : Int) (w : World) (h : OwnRows B w g G C R) (hn : R.length ≤ 1048576) (hl : ∀ i, i < R.length → (R.getD i []).length ≤ 1048576) (hk0 : 0 ≤ k) (hk1 : k ≤ 1048576) :
    Calls Try.prog 29 #[hullV step rise (.slice (some ⟨g, 0, none⟩) R.length cap), .int .i64 k] w fun e w' => e = .returned (.int .i64 (k + pre R R.length)) ∧ Kept (fun b => ∃ r, r < R.length ∧ b = G r) w w' ∧ OwnRows B w' g G C (mrows k R) := by
  unfold hullV
  have A1 := Below.alloc1 w (.cells #[.int .i64 step, .int .i64 rise, .slice (some ⟨g, 0, none⟩) R.length cap] 26)
  have HM := hide (markIntSS_any B g cap G C R k _ (h.below A1) hn hl hk0 hk1)
  have HA := hide A1
  clear h hl A1
  go_enter Try.func29, Try.ntmps29
  go_wp2_with fail
  refine (unhide HM).mono ?_
  rintro e w1 ⟨rfl, hk, ho⟩
  have HK := hide hk
  have HO := hide ho
  clear hk ho HM
  go_wp2
  go_ret
  exact ⟨rfl, (kept_of_below (unhide HA)).trans (unhide HK), unhide HO⟩

set_option maxHeartbeats 800000 in
theorem heldHull_any (step rise : Int) (v : Value) (R : List (List Int)) (k : Int) (w : World) (h : RowsIn w v R) (hx : ∀ r, r < R.length → R.getD r [] = marks (k + (pre R r : Int)) (R.getD r []).length) (hn : R.length ≤ 1048576) (hl : ∀ i, i < R.length → (R.getD i []).length ≤ 1048576) (hk0 : 0 ≤ k) (hk1 : k ≤ 1048576) :
    Calls Try.prog 30 #[hullV step rise v, .int .i64 k] w fun e w' => e = .returned (.int .i64 (k + pre R R.length)) ∧ Below w.heap.size w w' := by
  have HH := hide h
  obtain ⟨ao, cap, rfl, _, _, _⟩ := h
  unfold hullV
  have A1 := Below.alloc1 w (.cells #[.int .i64 step, .int .i64 rise, .slice ao R.length cap] 26)
  have HM := hide (heldIntSS_any _ R k _ ((unhide HH).below A1) hx hn hl hk0 hk1)
  have HA := hide A1
  have hp := pre_le hl R.length (Nat.le_refl _)
  clear hl hx A1
  go_enter Try.func30, Try.ntmps30
  go_wp2_with fail
  refine (unhide HM).mono ?_
  rintro e w1 ⟨rfl, hw⟩
  have HW : Hid (Below w.heap.size w w1) := by show Below _ _ _; rw [← hw]; exact unhide HA
  clear hw HM
  go_wp2
  go_ret
  exact ⟨rfl, unhide HW⟩

end Go.Proofs.Yticcjdcglfiggaa

/- How a whole row of records is copied into a row of the call's own. No statement about the program stands here. -/
namespace Go.Proofs.Yticcjdcglfiggaa
open Go.RowKit

theorem run_copy_k {P : Program} (w : World) (dT sT ty elem : TypeId) (k : Nat) (g n dCap : Nat) (a : Addr) (sCap : Nat) (cur : Array Value) (t : TypeId) (cs : List Value)
    (hu : P.underlying dT = some (.slice elem)) (hs : (P.info? elem).map (·.size) = some k)
    (hg : w.heap[g]? = some (.cells cur t (0, 0))) (hn : cs.length = n * k)
    (hsrc : ∀ j v, cs[j]? = some v → w.cell? (a.add j) = some v) (hfit : cs.length ≤ cur.size) (h1 : ∀ v ∈ cs, v.oneCell' = true) :
    (Builtin.copy_ #[dT, sT] ty #[.slice (some ⟨g, 0, none⟩) n dCap, .slice (some a) n sCap]).run P w =
      .ok (goInt n) (w.setRow g (cs ++ cur.toList.drop cs.length).toArray) := by
  have hl := run_loadCells_list (P := P) w a cs hsrc
  have hst := run_storeCells_at P g 0 t cs 0 cur w hg (by simpa using hfit) h1
  simp only [Nat.zero_add, List.take_zero, List.nil_append] at hst
  cases hq : P.info? elem with
  | none => simp [hq] at hs
  | some i =>
    have hi : i.size = k := by simpa [hq] using hs
    have hmin : Nat.min n n = n := Nat.min_self n
    simp [Builtin.copy_, run_underlying hu, Builtin.lenOf, Builtin.firstCells, sizeOf, typeInfo, hq, hi, ← hn, hl, hst]

theorem run_copy_k0 {P : Program} (w : World) (dT sT ty elem : TypeId) (k : Nat) (d a : Option Addr) (dCap sCap : Nat) (hu : P.underlying dT = some (.slice elem)) (hs : (P.info? elem).map (·.size) = some k) :
    (Builtin.copy_ #[dT, sT] ty #[.slice d 0 dCap, .slice a 0 sCap]).run P w = .ok (goInt 0) w := by
  cases hq : P.info? elem with
  | none => simp [hq] at hs
  | some i =>
    have hl : ∀ (x : Addr), (loadCells x 0).run P w = .ok #[] w := fun x => by simpa using run_loadCells_list (P := P) w x [] (by simp)
    cases d <;> cases a <;> simp [Builtin.copy_, run_underlying hu, Builtin.lenOf, Builtin.firstCells, sizeOf, typeInfo, hq, storeCells, hl]

theorem below_setRow' {B g : Nat} {w0 w : World} (hb : Below B w0 w) (hBg : B ≤ g) (cs : Array Value) : Below B w0 (w.setRow g cs) :=
  hb.trans ⟨rfl, rfl, rfl, by simp [World.setRow], fun k hk => setRow_other w g k cs (by omega)⟩

theorem ownV_fits {w : World} {g : Nat} {zs : List Value} (h : OwnV w g zs) : ∃ c t, w.heap[g]? = some (.cells c t (0, 0)) ∧ zs.length ≤ c.size := by
  obtain ⟨c, t, h1, h2⟩ := h
  refine ⟨c, t, h1, ?_⟩
  rcases Nat.eq_zero_or_pos zs.length with e | e
  · omega
  · have := h2 (zs.length - 1) (by omega)
    rw [List.getElem?_eq_getElem (by omega)] at this
    have := (Array.getElem?_eq_some_iff.1 this).1
    omega

theorem run_copy_all {P : Program} {w : World} (dT sT elem : TypeId) (k : Nat) (hu : P.underlying dT = some (.slice elem)) (hsz : (P.info? elem).map (·.size) = some k)
    (g n dCap : Nat) (sp : Option Addr) (sCap : Nat)
    (zs cs : List Value) (hO : OwnV w g zs) (hz : zs.length = cs.length) (hn : cs.length = n * k)
    (hsrc : 0 < n → ∃ ad, sp = some ad ∧ ∀ j v, cs[j]? = some v → w.cell? (ad.add j) = some v) (h1 : ∀ v ∈ cs, v.oneCell' = true)
    (B : Nat) (w0 : World) (hb : Below B w0 w) (hBg : B ≤ g) :
    ∃ w', (∀ ty, (Builtin.copy_ #[dT, sT] ty #[.slice (some ⟨g, 0, none⟩) n dCap, .slice sp n sCap]).run P w = .ok (goInt n) w') ∧ OwnV w' g cs ∧ Below B w0 w' := by
  rcases Nat.eq_zero_or_pos n with h0 | hpos
  · subst h0
    have hc0 : cs = [] := List.eq_nil_of_length_eq_zero (by rw [hn, Nat.zero_mul])
    subst hc0
    obtain ⟨c, t, hg, _⟩ := hO
    exact ⟨w, fun ty => run_copy_k0 (P := P) w dT sT ty elem k (some ⟨g, 0, none⟩) sp dCap sCap hu hsz, ⟨c, t, hg, fun i hi => by simp at hi⟩, hb⟩
  · obtain ⟨c, t, hg, hc⟩ := ownV_fits hO
    obtain ⟨ad, rfl, hsr⟩ := hsrc hpos
    refine ⟨_, fun ty => run_copy_k (P := P) w dT sT ty elem k g n dCap ad sCap c t cs hu hsz hg hn hsr (by omega) h1, ⟨_, t, setRow_heap w g _ _ t _ hg, fun i hi => ?_⟩, below_setRow' hb hBg _⟩
    simp [List.getElem?_append_left hi]

/-- The cells of a list of records that came in. -/
theorem recs_src {α : Type} [Inhabited α] {n : Nat} {enc : α → Nat → Value} {w : World} {ao : Option Addr} {m cap : Nat} {L : List α} (h : RecsIn n enc w (.slice ao m cap) L) :
    0 < m → ∃ ad, ao = some ad ∧ ∀ j v, (recCells n enc L)[j]? = some v → w.cell? (ad.add j) = some v := by
  obtain ⟨ao', cap', e, hl, hm, hc⟩ := h
  simp only [Value.slice.injEq] at e
  obtain ⟨rfl, rfl, rfl⟩ := e
  intro hpos
  obtain ⟨b, o, e, hx⟩ := hc 0 hpos
  subst e
  refine ⟨_, rfl, fun j v hj => ?_⟩
  have hjl : j < L.length * n := by
    rcases Nat.lt_or_ge j (L.length * n) with h | h
    · exact h
    · rw [List.getElem?_eq_none (by rw [recCells_length]; exact h)] at hj; cases hj
  have hn0 : 0 < n := by
    rcases Nat.eq_zero_or_pos n with e | e
    · subst e; simp at hjl
    · exact e
  have hi : j / n < L.length := Nat.div_lt_of_lt_mul (by rw [Nat.mul_comm]; exact hjl)
  obtain ⟨b', o', e', hx'⟩ := hc (j / n) hi
  simp only [Option.some.injEq, Addr.mk.injEq, and_true] at e'
  obtain ⟨rfl, rfl⟩ := e'
  have hg := hx' (j % n) (Nat.mod_lt _ hn0)
  have hj2 := recCells_get (n := n) (enc := enc) hi (Nat.mod_lt j hn0)
  have hdm : j / n * n + j % n = j := by rw [Nat.mul_comm]; exact Nat.div_add_mod j n
  rw [hdm] at hg hj2
  rw [hj2] at hj
  have hadd : (⟨b, o, none⟩ : Addr).add j = ⟨b, o + j, none⟩ := by unfold Addr.add; split <;> simp_all
  rw [hadd, hg, hj]

theorem ints_src {w : World} {ao : Option Addr} {m cap : Nat} {xs : List Int} (h : IntsIn w (.slice ao m cap) xs) :
    0 < m → ∃ ad, ao = some ad ∧ ∀ j v, (ints xs)[j]? = some v → w.cell? (ad.add j) = some v := by
  obtain ⟨ao', cap', e, hl, hm, hc⟩ := h
  simp only [Value.slice.injEq] at e
  obtain ⟨rfl, rfl, rfl⟩ := e
  intro hpos
  obtain ⟨b, o, e, hx⟩ := hc 0 hpos
  subst e
  refine ⟨_, rfl, fun j v hj => ?_⟩
  have hjl : j < xs.length := by
    rcases Nat.lt_or_ge j xs.length with h | h
    · exact h
    · rw [List.getElem?_eq_none (by rw [ints_length]; exact h)] at hj; cases hj
  obtain ⟨b', o', e', hx'⟩ := hc j hjl
  simp only [Option.some.injEq, Addr.mk.injEq, and_true] at e'
  obtain ⟨rfl, rfl⟩ := e'
  have hadd : (⟨b, o, none⟩ : Addr).add j = ⟨b, o + j, none⟩ := by unfold Addr.add; split <;> simp_all
  rw [hadd, hx', ← hj, ints_get xs hjl]

end Go.Proofs.Yticcjdcglfiggaa

/- The contract of the program's ownCopy of Int. -/
namespace Go.Proofs.Yticcjdcglfiggaa
open Go.RowKit

set_option maxRecDepth 10000 in
theorem Try.infoIntCp : (Try.prog.info? 3).map (fun i => (i.zero, i.size, i.bytes)) = some (some (Value.int .i64 0), 1, 8) := by kernel_rfl

set_option maxHeartbeats 1600000 in
theorem ownCopyInt_any (ar : Option Addr) (m cr : Nat) (xs : List Int) (w : World) (h : IntsIn w (.slice ar m cr) xs) (hm : m ≤ 1048576) :
    Calls Try.prog 51 #[.slice ar m cr] w fun e w' => e = .returned (.slice (some ⟨w.heap.size, 0, none⟩) m m) ∧ OwnV w' w.heap.size (ints xs) ∧ Below w.heap.size w w' := by
  have hlen : xs.length = m := by
    obtain ⟨ao', cap', e, _⟩ := h
    simp only [Value.slice.injEq] at e
    exact e.2.1.symm
  have hmk := run_make_row' (P := Try.prog) 31 3 (.int .i64 0) 8 Try.underlying31 Try.infoIntCp rfl .i64 .i64 m (by omega) (by omega)
  obtain ⟨Z, eZ⟩ : ∃ Z, Z = #[Value.int .i64 0] := ⟨_, rfl⟩
  rw [← eZ] at hmk
  have hsz : (Try.prog.info? 3).map (·.size) = some 1 := by
    obtain ⟨i0, hi, -, hz1, -⟩ := info_parts Try.infoIntCp
    rw [hi, Option.map_some, hz1]
  have HSRC := hide (ints_src h)
  have HCS : Hid (((ints xs)).length = m) := by show _ = _; rw [ints_length, hlen]
  have H1 : Hid (∀ v ∈ (ints xs), v.oneCell' = true) := fun v hv => by
    obtain ⟨x, _, rfl⟩ := List.mem_map.1 hv; rfl
  have A := Below.alloc1 w (.cells (madeCells Z m) 3)
  have HW := hide A
  have O := ownV_alloc w (madeCells Z m) 3
  have HO := hide O
  have hzl : (madeCells Z m).toList.length = m := by simp [madeCells]
  have HZL := hide hzl
  have HSRC2 : Hid (0 < m → ∃ ad, ar = some ad ∧ ∀ j v, ((ints xs))[j]? = some v → (w.alloc (.cells (madeCells Z m) 3)).cell? (ad.add j) = some v) := fun hp => by
    obtain ⟨ad, e, hx⟩ := unhide HSRC hp
    exact ⟨ad, e, fun j v hj => ((A.cell (lt_of_cell (hx j v hj))).trans (hx j v hj))⟩
  obtain ⟨w1, hrun, hO1, hb1⟩ := run_copy_all 31 31 3 1 Try.underlying31 hsz w.heap.size m m ar cr _ _ (unhide HO) (by rw [unhide HZL, unhide HCS]) (by rw [Nat.mul_one]; exact unhide HCS) (unhide HSRC2) (unhide H1) w.heap.size w (unhide HW) (Nat.le_refl _)
  have HO1 := hide hO1
  have HW1 := hide hb1
  clear h eZ A O hzl HSRC hsz HO HW HSRC2 H1 HCS HZL hO1 hb1 hlen
  go_enter Try.func51, Try.ntmps51
  go_wp2
  go_ret
  exact ⟨rfl, unhide HO1, unhide HW1⟩

end Go.Proofs.Yticcjdcglfiggaa

/- The contract of the program's ownCopy; a list of rows of the call's own, and how it is filled. -/
namespace Go.Proofs.Yticcjdcglfiggaa
open Go.RowKit

theorem ownCopy_any (ar : Option Addr) (m cr : Nat) (xs : List Int) (w : World) (h : IntsIn w (.slice ar m cr) xs) (hpos : 0 < m) (hm : m ≤ 1048576) :
    Calls Try.prog 51 #[.slice ar m cr] w fun e w' => ∃ g cap, e = .returned (.slice (some ⟨g, 0, none⟩) m cap) ∧ w.heap.size ≤ g ∧ m ≤ cap ∧ cap ≤ maxLen ∧ OwnV w' g (ints xs) ∧ Below w.heap.size w w' :=
  (ownCopyInt_any ar m cr xs w h hm).mono fun e w' ⟨he, hO, hb⟩ => ⟨w.heap.size, m, he, Nat.le_refl _, Nat.le_refl _, by unfold maxLen; omega, hO, hb⟩

/-- A list of rows of the call's own, or nothing. -/
def OwnRowsV (B : Nat) (w : World) (v : Value) (R : List (List Int)) : Prop :=
  (R = [] ∧ v = .slice none 0 0) ∨ ∃ g G C cap, v = .slice (some ⟨g, 0, none⟩) R.length cap ∧ R.length ≤ cap ∧ cap ≤ maxLen ∧ OwnRows B w g G C R

/-- The new list of rows, k of them made. -/
structure FillM (w wr : World) (M : List (List Int)) (k : Nat) (G C : Nat → Nat) : Prop where
  below : Below w.heap.size w wr
  top : wr.rowIs w.heap.size 31 M.length (fun r => if r < k then .slice (some ⟨G r, 0, none⟩) (M.getD r []).length (C r) else .slice none 0 0)
  rows : ∀ r, r < k → OwnV wr (G r) (ints (M.getD r []))
  caps : ∀ r, r < k → (M.getD r []).length ≤ C r ∧ C r ≤ maxLen
  above : ∀ r, r < k → w.heap.size < G r
  apart : ∀ r s, r < k → s < k → r ≠ s → G r ≠ G s

theorem fillM_start (w : World) (M : List (List Int)) (n : Nat) (hn : n = M.length) : FillM w (w.alloc (.cells (madeCells #[.slice none 0 0] n) 31)) M 0 (fun _ => 0) (fun _ => 0) := by
  subst hn
  exact ⟨(Below.refl _ _).alloc (Nat.le_refl _) _, (World.rowIs_made w _ M.length 31).congr (fun j _ => by simp), fun r hr => by omega, fun r hr => by omega, fun r hr => by omega, fun r s hr => by omega⟩

theorem fillM_step {w wr w2 w3 : World} {M : List (List Int)} {k g cap : Nat} {G C : Nat → Nat} (h : FillM w wr M k G C) (hb2 : Below wr.heap.size wr w2) (hg : w2.heap.size ≤ g) (ho : OwnV w3 g (ints (M.getD k []))) (hb3 : Below w2.heap.size w2 w3)
    (hc1 : (M.getD k []).length ≤ cap) (hc2 : cap ≤ maxLen) :
    FillM w (w3.setCell ⟨w.heap.size, k, none⟩ (.slice (some ⟨g, 0, none⟩) (M.getD k []).length cap)) M (k + 1) (fun r => if r = k then g else G r) (fun r => if r = k then cap else C r) := by
  have hlt := h.top.lt
  have hs2 := hb2.size
  have hB : Below wr.heap.size wr w3 := Below.step hb2 hb3
  have old : ∀ r, r < k → G r < wr.heap.size := fun r hr => (h.rows r hr).lt
  refine ⟨(Below.step h.below hB).setCell (Nat.le_refl _) _, ((h.top.of_block (hB.block _ hlt)).set k _).congr (fun i _ => ?_), fun r hr => ?_, fun r hr => ?_, fun r hr => ?_, fun r s hr hs hne => ?_⟩
  · by_cases e : i = k
    · subst e; simp
    · rw [if_neg e]
      by_cases hi : i < k
      · rw [if_pos hi, if_pos (by omega), if_neg e, if_neg e]
      · rw [if_neg hi, if_neg (by omega)]
  · by_cases e : r = k
    · subst e
      simp only [if_true]
      exact ho.other (by show g ≠ w.heap.size; omega) _
    · have hr' : r < k := by omega
      rw [if_neg e]
      exact ((h.rows r hr').below hB (h.rows r hr').lt).other (by have := h.above r hr'; show G r ≠ w.heap.size; omega) _
  · by_cases e : r = k
    · subst e; simp only [if_true]; exact ⟨hc1, hc2⟩
    · rw [if_neg e]; exact h.caps r (by omega)
  · by_cases e : r = k
    · subst e; simp only [if_true]; omega
    · rw [if_neg e]; exact h.above r (by omega)
  · by_cases er : r = k
    · subst er
      rw [if_pos rfl, if_neg (fun e => hne e.symm)]
      have := old s (by omega)
      omega
    · rw [if_neg er]
      by_cases es : s = k
      · subst es
        rw [if_pos rfl]
        have := old r (by omega)
        omega
      · rw [if_neg es]
        exact h.apart r s (by omega) (by omega) hne

theorem fillM_done {w wr : World} {M : List (List Int)} {G C : Nat → Nat} (h : FillM w wr M M.length G C) : OwnRows w.heap.size wr w.heap.size G C M :=
  ⟨Nat.le_refl _, rowIs_ownV h.top (tops_length _ _ M) (fun i hi => by rw [tops_get _ _ M hi, if_pos hi]), h.rows, h.caps, fun r hr => ⟨by have := h.above r hr; omega, by have := h.above r hr; omega⟩, h.apart⟩

end Go.Proofs.Yticcjdcglfiggaa
