/- The contract of the program's Strips2: the strips, in memory of its own. -/
import Derived.Test.YticcjdcglfiggaaWalkJ
namespace Go.Proofs.Yticcjdcglfiggaa
open Go.RowKit

theorem ret_val {a b : Value} (h : a = b) : Ending.returned a = .returned b := by rw [h]

set_option maxHeartbeats 1600000 in
theorem implStrips2_any (step rise : Int) (v : Value) (R : List (List Int)) (c : Int) (w : World) (h : RowsIn w v R) :
    Calls Try.prog 13 #[hullV step rise v, .int .i64 c] w fun e w' => ∃ ao n cap, e = .returned (.slice ao n cap) ∧ OwnSl w.heap.size w' (.slice ao n cap) (strips step rise R c) ∧ Below w.heap.size w w' := by
  have HV := hide h
  obtain ⟨ao, cap, rfl, hl, hm, hc⟩ := h
  unfold maxLen at hm
  clear hc
  unfold hullV
  have HB0 := hide (box3_alloc w (.int .i64 step) (.int .i64 rise) (.slice ao R.length cap) 26)
  have HW0 := hide (Below.alloc1 w (.cells #[.int .i64 step, .int .i64 rise, .slice ao R.length cap] 26))
  go_enter Try.func13, Try.ntmps13
  go_wp2_with fail
  refine (isWater_any step rise _ R c _ ((unhide HV).below (unhide HW0))).mono ?_
  rintro e w1 ⟨rfl, hb⟩
  have HB1 := hide ((unhide HB0).step hb)
  have HW1 := hide (Below.step (unhide HW0) hb)
  clear hb HB0 HW0
  cases hok : waterOk step rise R c with
  | false =>
    have HF : Hid (strips step rise R c = []) := by show _ = _; simp [strips, hok]
    clear hok
    go_wp2
    go_ret
    refine ⟨none, 0, 0, rfl, ?_, unhide HW1⟩
    rw [unhide HF]
    exact ⟨none, 0, rfl, Nat.le_refl _, Nat.zero_le _, fun h => absurd rfl h⟩
  | true =>
    have HF : Hid (strips step rise R c = (List.range (R.length - 1)).map (strip2 step rise R c.toNat)) := by show _ = _; simp [strips, hok]
    unfold waterOk at hok
    simp only [Bool.and_eq_true] at hok
    have hR := hullOk_right hok.1
    have hcb := inB_true hok.2
    clear hok
    obtain ⟨j, rfl⟩ := Int.eq_ofNat_of_zero_le hcb.1
    rw [Int.toNat_natCast] at HF
    have hj : j < (R.getD 0 []).length := by omega
    clear hcb
    have hl1 := hR.len1
    have hl2 := hR.len2
    have HR := hide hR
    have HJ := hide hj
    clear hR hj
    obtain ⟨c0, c1, c2⟩ := unhide HB1
    go_wp2_with fail
    refine (stripCount_any step rise _ R _ ((unhide HV).below (unhide HW1))).mono ?_
    rintro e w2 ⟨rfl, hb⟩
    have HB2 := hide ((unhide HB1).step hb)
    have HW2 := hide (Below.step (unhide HW1) hb)
    clear hb HB1 HW1 c0 c1 c2
    obtain ⟨n, hn⟩ : ∃ n : Nat, n + 1 = R.length := ⟨R.length - 1, by omega⟩
    have hmk := run_make_row' (P := Try.prog) 31 3 (.int .i64 0) 8 Try.underlying31 Try.info3 rfl .i64 .i64 n (by omega) (by omega)
    have ec : (n : Int) = (R.length : Int) - 1 := by omega
    have ec' : R.length - 1 = n := by omega
    rw [ec'] at HF
    rw [ec] at hmk
    have HN := hide hn
    have hn2 : n < R.length := by omega
    have hn3 : (n : Int) ≤ 11 := by omega
    have HEC := hide ec
    clear hn ec ec'
    go_wp2
    clear hmk
    have hlt0 := (unhide HB2).c0
    have hlt : w.heap.size < w2.heap.size := lt_of_cell hlt0
    clear hlt0
    go_loopg [16] n (fun g i wr => ∃ k : Nat, k ≤ n ∧ g = n - k ∧ i = .int .i64 k ∧ FillS w2 wr (strip2 step rise R j) n k)
    case atStart => exact ⟨0, Nat.zero_le _, rfl, rfl, fillS_start _ _ _⟩
    case round =>
      obtain ⟨k, hk, rfl, rfl, hF⟩ := hrel
      by_cases hkn : k < n
      · have hk1 : k + 1 < R.length := by have := unhide HN; omega
        obtain ⟨c0, c1, c2⟩ := (unhide HB2).step hF.below
        have HWr := hide (Below.step (unhide HW2) hF.below)
        have HT := hide (stripHalves_any step rise _ R (k : Int) (j : Int) k j wr.drew ((unhide HV).below (unhide HWr).drew) rfl rfl (unhide HR) hk1 (unhide HJ))
        have HX := hide ((unhide HB2).step hF.below)
        obtain ⟨⟨p1, p2⟩, p3, p4⟩ := strip2_bd (unhide HR) hk1 (unhide HJ)
        have EF : Hid (strip2 step rise R j k = rise * step * stripH R j k) := rfl
        have HFl := hide hF
        clear hF
        generalize stripH R j k = q at *
        have hw1 : IntKind.i64.wrap (rise * step) = rise * step := by rw [IntKind.wrap_i64]; omega
        have hw2 : IntKind.i64.wrap (rise * step * q) = rise * step * q := by rw [IntKind.wrap_i64]; omega
        have hne : ¬ w.heap.size = w2.heap.size := by omega
        have hne' : ¬ w2.heap.size = w.heap.size := by omega
        go_wp2
        go_region_held3 (fun w' => w'.cell? ⟨w.heap.size, 0, none⟩ = some (.int .i64 step) ∧ w'.cell? ⟨w.heap.size, 1, none⟩ = some (.int .i64 rise) ∧ w'.cell? ⟨w.heap.size, 2, none⟩ = some (.slice ao R.length cap)) (go_keep) (first | (go_at_call 57; refine (unhide HT).mono ?_; rintro e w3 ⟨rfl, hb3⟩; have hb4 : Below wr.heap.size wr w3 := Below.step ((Below.refl _ wr).drew) hb3; obtain ⟨f0, f1, f2⟩ := (unhide HX).step hb4; have g1 : w3.cell? ⟨w2.heap.size, k, none⟩ = some (.int .i64 0) := (by simpa using ((unhide HFl).row.of_block (hb4.block _ (unhide HFl).row.lt)).cell hkn); have g2 : w3.frozen? ⟨w2.heap.size, k, none⟩ = false := ((unhide HFl).row.of_block (hb4.block _ (unhide HFl).row.lt)).frozen k; have HS := hide (fillS_step (unhide HFl) hb4); clear hb3 hb4))
        go_wp2
        go_roundg (n - (k + 1))
        case measure => omega
        case rel => exact ⟨k + 1, by omega, rfl, by go_num, by rw [← unhide EF]; exact unhide HS⟩
      · have hkk : k = n := by omega
        subst hkk
        go_wp2
        go_ret
        refine ⟨_, _, _, rfl, ?_, Below.step (unhide HW2) hF.below⟩
        rw [unhide HF]
        exact (fillS_done hF (by unfold maxLen; omega)).mono (by omega)

end Go.Proofs.Yticcjdcglfiggaa
