/- The specification's Duties. Written by wip/mkrrE.py. -/
import Derived.Test.YtmgcpllkielpkaaRrN1
import Derived.Test.YtmgcpllkielpkaaGrow
import Derived.Test.YtmgcpllkielpkaaWalkL
namespace Go.Proofs.Ytmgcpllkielpkaa
open Go.RowKit

def dutTo (L : List ShipT) (k : Nat) : List (List Int) := (List.range k).map (dutRow L)
def dutPre (L : List ShipT) (k j : Nat) : List Int := (List.range j).map (dutN L k)
theorem dutTo_len (L : List ShipT) (k : Nat) : (dutTo L k).length = k := by simp [dutTo]
theorem dutTo_succ (L : List ShipT) (k : Nat) : dutTo L (k + 1) = dutTo L k ++ [dutRow L k] := by simp [dutTo, List.range_succ]
theorem dutPre_len (L : List ShipT) (k j : Nat) : (dutPre L k j).length = j := by simp [dutPre]
theorem dutPre_succ (L : List ShipT) (k j : Nat) : ints (dutPre L k (j + 1)) = ints (dutPre L k j) ++ [.int .i64 (dutN L k j)] := by simp [dutPre, List.range_succ, ints]
/-- The row that an append loop has built. -/
theorem row_ownD {w : World} {base m : Nat} {v : Value} {row : List Int} (h : w.ownsRow base 3 1 v m (ints row)) (hm : 0 < m) (hr : row.length = m) : ∃ g cap, v = .slice (some ⟨g, 0, none⟩) m cap ∧ base ≤ g ∧ m ≤ cap ∧ cap ≤ maxLen ∧ OwnV w g (ints row) := by
  obtain ⟨_, h2⟩ := h
  rcases h2 with ⟨_, h0⟩ | ⟨g1, cap1, cur, hv, hg, hh, hc, hm', hs, ht⟩
  · omega
  · refine ⟨g1, cap1, hv, hg, by omega, hm', cur, _, hh, fun i hi => ?_⟩
    rw [← ht]
    rw [ints_length] at hi
    simp [show i < m by omega]
theorem rowsIn_none (w : World) (g : Nat) : RowsIn w (.slice (some ⟨g, 0, none⟩) 0 0) [] := ⟨_, 0, rfl, Nat.le_refl _, Nat.zero_le _, fun r hr => by simp at hr⟩
theorem grow_made (w : World) (t : TypeId) : Grow t w.heap.size (w.alloc (.cells #[] t)) (.slice (some ⟨w.heap.size, 0, none⟩) 0 0) [] :=
  ⟨[], ⟨rfl, Or.inr ⟨w.heap.size, 0, #[], rfl, Nat.le_refl _, Go.Deep.blk_alloc_new _ _, Nat.le_refl _, Nat.zero_le _, rfl, rfl⟩⟩, fun r hr => by simp at hr⟩

set_option maxRecDepth 10000 in
set_option maxHeartbeats 16000000 in
theorem specDuties_any (v : Value) (L : List ShipT) (w : World) (h : RShip w v L) :
    Calls Try.prog 30 #[v] w fun e w' => ∃ ao n cap, e = .returned (.tuple #[.slice ao n cap, .bool (shipsB L)]) ∧ RowsIn w' (.slice ao n cap) (dutiesR L) ∧ Below w.heap.size w w' := by
  obtain ⟨ao, cap, rfl, hl, hm, hc⟩ := h
  unfold maxLen at hm
  have HC := hide hc
  clear hc
  by_cases h20 : L.length ≤ 20
  case neg =>
    have h20' : (20 : Int) < L.length := by omega
    have hB : shipsB L = false := by unfold shipsB; rw [decide_eq_false h20]; rfl
    have HN : Hid (dutiesR L = []) := by show _ = _; rw [dutiesR, hB]; rfl
    have HS := hide hB
    clear hB
    go_enter Try.func30, Try.ntmps30
    go_wp2
    go_loopg [4] L.length (fun g i wr => Hid (Below w.heap.size w wr) ∧ g = L.length ∧ i = .int .i64 0)
    case atStart => exact ⟨Below.refl _ _, rfl, rfl⟩
    case round =>
      obtain ⟨HW, rfl, rfl⟩ := hrel
      have HX := hide (Below.step (unhide HW) (Below.alloc1 wr (.cells #[] 34)))
      have hp : (0 : Int) < L.length := by omega
      go_wp2
      go_ret2
      exact ⟨some ⟨wr.heap.size, 0, none⟩, 0, 0, by rw [unhide HS]; rfl, by rw [unhide HN]; exact rowsIn_none _ _, unhide HX⟩
  have h20' : (L.length : Int) ≤ 20 := by omega
  go_enter Try.func30, Try.ntmps30
  go_wp2
  go_loopg [4] L.length (fun g i wr => Hid (Below w.heap.size w wr) ∧ ∃ k : Nat, k ≤ L.length ∧ g = L.length - k ∧ i = .int .i64 k ∧ Hid (∀ r, r < k → okT (L.getD r default) = true))
  case atStart => exact ⟨Below.refl _ _, 0, Nat.zero_le _, rfl, rfl, fun r hr => by omega⟩
  case round =>
    obtain ⟨HW, k, hk, rfl, rfl, HK⟩ := hrel
    by_cases hkn : k < L.length
    case pos =>
      obtain ⟨b, o, x0, x1, x2, x3, x4, x5, rfl, hc0, hc1, hc2, hc3, hc4, hc5, EX⟩ := recShipAt (unhide HC) hkn
      have r0 := wcell3 hc0 (unhide HW)
      have r1 := wcell3 hc1 (unhide HW)
      have r2 := wcell3 hc2 (unhide HW)
      have r3 := wcell3 hc3 (unhide HW)
      have r4 := wcell3 hc4 (unhide HW)
      have r5 := wcell3 hc5 (unhide HW)
      clear hc0 hc1 hc2 hc3 hc4 hc5
      have hkni : (k : Int) < L.length := by omega
      have HS := hide fun W => specShipOk_any x0 x1 x2 x3 x4 x5 W
      have HT : Hid (okT (L.getD k default) = shipB x0 x1 x2 x3 x4 x5) := by show _ = _; rw [unhide EX]; rfl
      generalize shipB x0 x1 x2 x3 x4 x5 = t at HS HT
      unfold vShip at HS
      clear EX
      go_wp2_with fail
      refine (unhide HS _).mono ?_
      rintro e w1 ⟨rfl, hb⟩
      have HN := hide (Below.step (unhide HW) hb)
      clear hb HS HW r0 r1 r2 r3 r4 r5
      cases t
      · have hB := shipsB_bad hkn (unhide HT)
        have HE : Hid (dutiesR L = []) := by show _ = _; rw [dutiesR, hB]; rfl
        have HF := hide hB
        have HX := hide (Below.step (unhide HN) (Below.alloc1 w1 (.cells #[] 34)))
        clear hB
        go_wp2
        go_ret2
        exact ⟨some ⟨w1.heap.size, 0, none⟩, 0, 0, by rw [unhide HF]; rfl, by rw [unhide HE]; exact rowsIn_none _ _, unhide HX⟩
      have HK' : Hid (∀ r, r < k + 1 → okT (L.getD r default) = true) := fun r hr => by
        by_cases e : r = k
        · subst e; exact unhide HT
        · exact HK.out r (by omega)
      clear HK HT
      go_wp2
      go_roundg (L.length - (k + 1))
      case measure => omega
      case rel => exact ⟨HN, k + 1, by omega, rfl, by go_num, HK'⟩
    have hkni : ¬ (k : Int) < L.length := by omega
    have hB : shipsB L = true := by
      unfold shipsB
      rw [decide_eq_true h20, all_true (d := default) (fun r hr => HK.out r (by omega))]
      rfl
    have HE : Hid (dutiesR L = dutRows L) := by show _ = _; rw [dutiesR, hB]; rfl
    have HF := hide hB
    clear hB HK
    go_wp2
    clear hkni hk
    generalize wr = w1 at *
    have HG0 := hide (grow_made w1 34)
    go_loopg [5, 6] L.length (fun gh ov iv wr => ∃ (k : Nat) (ao2 : Option Addr) (cap2 : Nat), k ≤ L.length ∧ gh = L.length - k ∧ iv = .int .i64 k ∧ ov = .slice ao2 k cap2 ∧ Hid (Grow 34 w1.heap.size wr (.slice ao2 k cap2) (dutTo L k)) ∧ Hid (Below w1.heap.size w1 wr))
    case atStart => exact ⟨0, _, 0, Nat.zero_le _, rfl, rfl, rfl, HG0, Below.alloc1 _ _⟩
    case round =>
      clear HG0
      obtain ⟨k, ao2, cap2, hk, rfl, rfl, rfl, HG, HB1⟩ := hrel
      by_cases hkn : k < L.length
      case neg =>
        have hkni : ¬ (k : Int) < L.length := by omega
        have ek : k = L.length := by omega
        have HX := hide (Below.step (unhide HW) (unhide HB1))
        have HY : Hid (RowsIn wr (.slice ao2 k cap2) (dutRows L)) := by
          show RowsIn _ _ _
          have := (unhide HG).rowsIn
          rw [show dutTo L k = dutRows L by rw [ek]; rfl] at this
          exact this
        clear HG HB1 ek
        go_wp2
        go_ret2
        exact ⟨ao2, k, cap2, by rw [unhide HF]; rfl, by rw [unhide HE]; exact unhide HY, unhide HX⟩
      have hkni : (k : Int) < L.length := by omega
      generalize wr = w3 at *
      have OE : Hid ((w3.alloc (.cells #[] 3)).ownsRow w3.heap.size 3 1 (.slice (some ⟨w3.heap.size, 0, none⟩) 0 0) 0 (ints (dutPre L k 0))) :=
        ⟨rfl, Or.inr ⟨w3.heap.size, 0, #[], rfl, Nat.le_refl _, Go.Deep.blk_alloc_new _ _, Nat.le_refl _, Nat.zero_le _, rfl, rfl⟩⟩
      go_wp2
      go_loopg [7, 8] L.length (fun gh rv iv wr => ∃ j : Nat, j ≤ L.length ∧ gh = L.length - j ∧ iv = .int .i64 j ∧ Hid (wr.ownsRow w3.heap.size 3 1 rv j (ints (dutPre L k j))) ∧ Hid (Below w3.heap.size w3 wr))
      case atStart => exact ⟨0, Nat.zero_le _, rfl, rfl, OE, Below.alloc1 _ _⟩
      case round =>
        clear OE
        obtain ⟨j, hj, rfl, rfl, HO, HB⟩ := hrel
        have hsz := (unhide HB).size
        by_cases hjn : j < L.length
        case neg =>
          have hjni : ¬ (j : Int) < L.length := by omega
          have hO := unhide HO
          rw [show dutPre L k j = dutRow L k by rw [show j = L.length by omega]; rfl] at hO
          obtain ⟨g1, cap1, hv, hg1, hcap1, hcap2, hov1⟩ := row_ownD hO (by omega) (by rw [dutRow_len]; omega)
          obtain ⟨vals, hvo3, hvr3⟩ := unhide HG
          rw [dutTo_len] at hvo3
          have HBl : Hid (∀ q, (Value.slice ao2 k cap2).ownBlock = some q → w1.heap.size ≤ q ∧ q < w3.heap.size) := fun q hq => hvo3.lt q hq
          have HVL : Hid (vals.length = (dutTo L k).length) := by show _ = _; rw [dutTo_len]; have := hvo3.1; omega
          have HVO := hide (ownsRow_below hvo3 (unhide HB))
          have HVR := hide hvr3
          have HV1 := hide hov1
          have ERl : Hid ((dutRow L k).length = j) := by show _ = _; rw [dutRow_len]; omega
          have hs1 := (unhide HB1).size
          obtain ⟨i1, hi, hz0, hz1, hz2⟩ := info_parts Try.info34
          subst hv
          clear hO hvo3 hvr3 hov1 HG
          go_wp2_with (at_builtin; refine wpList_append_lies _ rfl _ _ 30 rfl w1.heap.size 34 i1 (.slice none 0 0) 1 24 Try.underlying30 hi hz0 hz1 hz2 rfl (by decide) (.slice ao2 k cap2) k vals rfl ((unhide HVO).alloc _) ⟨wr.heap.size, 0, none⟩ 1 1 [.slice (some ⟨g1, 0, none⟩) j cap1] rfl rfl (cell_one_new _ _ _) (by simp [Value.oneCell']) (by omega) (by unfold maxLen; omega) (by omega) (by simp; omega) (wr.heap.size + 1) (by simp) ?_; intro g' cap' w5 hown' hgrow hat _; have HN := hide (Grow.push (R := dutTo L k) (row := dutRow L k) (ov := .slice ao2 k cap2) (H := wr.heap.size + 1) (fun r hlt => by obtain ⟨g, c, a1, a2, a3, a4, a5, a6⟩ := unhide HVR r hlt; exact ⟨g, c, a1, a2, a3, a4.below (unhide HB) a4.lt, a5, a6⟩) (unhide HVL) (Below.alloc1 wr _) (unhide HV1) (by omega) (fun e => by have := (unhide HBl g1 e).2; omega) (by rw [unhide ERl]; exact hcap1) hcap2 (by omega) (by rw [dutTo_len, unhide ERl]; exact hown') hgrow hat); have HX := hide ((Below.step (unhide HB1) (unhide HB)).trans (((Below.refl _ _).alloc (by omega) _).grown hgrow (by simp; omega) (fun q hq => by have := (unhide HBl q hq).1; omega))); clear hown' hgrow hat)
          rw [dutTo_len, ← dutTo_succ] at HN
          go_roundg (L.length - (k + 1))
          case measure => omega
          case rel => exact ⟨k + 1, _, _, by omega, rfl, by go_num, rfl, HN, HX⟩
        have hjni : (j : Int) < L.length := by omega
        by_cases e : j = k
        case pos =>
          have d : ((j : Int) != (k : Int)) = false := by rw [e]; simp
          have HN : Hid (ints (dutPre L k (j + 1)) = ints (dutPre L k j) ++ [.int .i64 0]) := by show _ = _; rw [dutPre_succ, dutN, if_pos e]
          clear e
          obtain ⟨i0, hi, hz0, hz1, hz2⟩ := info_parts Try.info3
          go_wp2_with (at_builtin; refine wpList_append_own _ rfl _ _ 34 rfl w3.heap.size 3 i0 (.int .i64 0) 1 8 Try.underlying34 hi hz0 hz1 hz2 rfl (by decide) _ _ _ rfl ((unhide HO).alloc _) ⟨wr.heap.size, 0, none⟩ 1 1 [.int .i64 0] rfl rfl ?c1 ?c2 ?c3 ?c4 ?c5 ?_)
          case c1 => exact cell_one_new _ _ _
          case c2 => intro u hu; simp at hu; subst hu; rfl
          case c3 => unfold maxLen; omega
          case c4 => omega
          case c5 => simp; omega
          intro v' wa hown' hgrow _
          have HOa : Hid (wa.ownsRow w3.heap.size 3 1 v' (j + 1) (ints (dutPre L k (j + 1)))) := by show World.ownsRow _ _ _ _ _ _ _; rw [unhide HN]; exact hown'
          have HBa : Hid (Below w3.heap.size w3 wa) := ((unhide HB).alloc (by omega) _).grown hgrow (by simp; omega) (fun g hg => ((unhide HO).lt g hg).1)
          clear hown' hgrow HO HB hi hz0 hz1 hz2
          go_wp2
          go_roundg (L.length - (j + 1))
          case measure => omega
          case rel => exact ⟨j + 1, by omega, rfl, by go_num, HOa, HBa⟩
        have d : ((j : Int) != (k : Int)) = true := by simp; omega
        obtain ⟨b, o, x0, x1, x2, x3, x4, x5, rfl, hc0, hc1, hc2, hc3, hc4, hc5, EX⟩ := recShipAt (unhide HC) hkn
        obtain ⟨b', o', y0, y1, y2, y3, y4, y5, eb, hd0, hd1, hd2, hd3, hd4, hd5, EY⟩ := recShipAt (unhide HC) hjn
        simp only [Option.some.injEq, Addr.mk.injEq, and_true] at eb
        obtain ⟨rfl, rfl⟩ := eb
        have HY := Below.step (Below.step (unhide HW) (unhide HB1)) (unhide HB)
        have r0 := fun x' : Gr wr => gr_cell (wcell3 hc0 HY) x'
        have s0 := fun x' : Gr wr => gr_cell (wcell3 hd0 HY) x'
        have r1 := fun x' : Gr wr => gr_cell (wcell3 hc1 HY) x'
        have s1 := fun x' : Gr wr => gr_cell (wcell3 hd1 HY) x'
        have r2 := fun x' : Gr wr => gr_cell (wcell3 hc2 HY) x'
        have s2 := fun x' : Gr wr => gr_cell (wcell3 hd2 HY) x'
        have r3 := fun x' : Gr wr => gr_cell (wcell3 hc3 HY) x'
        have s3 := fun x' : Gr wr => gr_cell (wcell3 hd3 HY) x'
        have r4 := fun x' : Gr wr => gr_cell (wcell3 hc4 HY) x'
        have s4 := fun x' : Gr wr => gr_cell (wcell3 hd4 HY) x'
        have r5 := fun x' : Gr wr => gr_cell (wcell3 hc5 HY) x'
        have s5 := fun x' : Gr wr => gr_cell (wcell3 hd5 HY) x'
        have HDu := hide fun x' : Gr wr => specDuty_any x0 x1 x2 x3 x4 x5 y0 y1 y2 y3 y4 y5 x'.val
        have HN : Hid (ints (dutPre L k (j + 1)) = ints (dutPre L k j) ++ [.int .i64 (duty x0 x1 x2 x3 x4 x5 y0 y1 y2 y3 y4 y5)]) := by show _ = _; rw [dutPre_succ, dutN, if_neg e, dutT, unhide EX, unhide EY]
        generalize duty x0 x1 x2 x3 x4 x5 y0 y1 y2 y3 y4 y5 = D at HDu HN
        unfold vShip at HDu
        have gsome := gr_some wr
        clear hc0 hc1 hc2 hc3 hc4 hc5 hd0 hd1 hd2 hd3 hd4 hd5 HY EX EY
        go_wp2
        refine wp_region_grown (by kernel_rfl) (by kernel_rfl) ?_
        repeat (go_big_quiet_step (fail))
        go_big_quiet_want
        go_big_quiet_op
        go_big_quiet_call (exact calls_grown (unhide HDu _))
        repeat (go_big_quiet_step (fail))
        refine wpQuiet_nil ?_
        intro w8 hw8
        obtain ⟨z', hz⟩ := hw8
        have hb8 : Below wr.heap.size wr w8 := hz ▸ z'.ok
        clear hz gsome HDu z' r0 r1 r2 r3 r4 r5 s0 s1 s2 s3 s4 s5
        have hsz8 := hb8.size
        replace HO := hide (ownsRow_below (unhide HO) hb8)
        replace HB := hide (Below.step (unhide HB) hb8)
        clear hb8
        obtain ⟨i0, hi, hz0, hz1, hz2⟩ := info_parts Try.info3
        go_wp2_with (at_builtin; refine wpList_append_own _ rfl _ _ 34 rfl w3.heap.size 3 i0 (.int .i64 0) 1 8 Try.underlying34 hi hz0 hz1 hz2 rfl (by decide) _ _ _ rfl ((unhide HO).alloc _) ⟨w8.heap.size, 0, none⟩ 1 1 [.int .i64 D] rfl rfl ?c1 ?c2 ?c3 ?c4 ?c5 ?_)
        case c1 => exact cell_one_new _ _ _
        case c2 => intro u hu; simp at hu; subst hu; rfl
        case c3 => unfold maxLen; omega
        case c4 => omega
        case c5 => simp; omega
        intro v' wa hown' hgrow _
        have HOa : Hid (wa.ownsRow w3.heap.size 3 1 v' (j + 1) (ints (dutPre L k (j + 1)))) := by show World.ownsRow _ _ _ _ _ _ _; rw [unhide HN]; exact hown'
        have HBa : Hid (Below w3.heap.size w3 wa) := ((unhide HB).alloc (by omega) _).grown hgrow (by simp; omega) (fun g hg => ((unhide HO).lt g hg).1)
        clear hown' hgrow HO HB hi hz0 hz1 hz2
        go_wp2
        go_roundg (L.length - (j + 1))
        case measure => omega
        case rel => exact ⟨j + 1, by omega, rfl, by go_num, HOa, HBa⟩

end Go.Proofs.Ytmgcpllkielpkaa
