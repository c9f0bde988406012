/- The contract of the specification's Mirror: the rows from the other end. -/
import Derived.Test.YticcjdcglfiggaaWalkS
import Derived.Test.YticcjdcglfiggaaRowGrow
import Derived.Deep.RegionLaw
namespace Go.Proofs.Yticcjdcglfiggaa
open Go.RowKit

/-- The first k rows from the other end. -/
def mk (R : List (List Int)) (k : Nat) : List (List Int) := (List.range k).map fun s : Nat => R.getD (R.length - 1 - s) []

theorem mk_len (R : List (List Int)) (k : Nat) : (mk R k).length = k := by simp [mk]
theorem mk_succ (R : List (List Int)) (k : Nat) : mk R (k + 1) = mk R k ++ [R.getD (R.length - 1 - k) []] := by simp [mk, List.range_succ]
theorem mk_all (R : List (List Int)) : mk R R.length = mirrorR R := rfl

set_option maxRecDepth 20000 in
set_option maxHeartbeats 3200000 in
theorem specMirror_any (step rise : Int) (v : Value) (R : List (List Int)) (w : World) (h : RowsIn w v R) :
    Calls Try.prog 26 #[hullV step rise v] w fun e w' => ∃ ao n cap, e = .returned (hullV (mStep step rise R) (mRise step rise R) (.slice ao n cap)) ∧ RowsIn w' (.slice ao n cap) (mRows step rise R) ∧ Below w.heap.size w w' := by
  have HV := hide h
  obtain ⟨ao, cap, rfl, hl, hm, hc⟩ := h
  have HC := hide hc
  unfold maxLen at hm
  clear hc
  unfold hullV
  have A2 : Below w.heap.size w ((w.alloc (.cells #[.int .i64 step, .int .i64 rise, .slice ao R.length cap] 26)).alloc (.cells #[.int .i64 0, .int .i64 0, .slice none 0 0] 26)) := (Below.alloc1 _ _).alloc (by simp) _
  have B2 : Box3 ((w.alloc (.cells #[.int .i64 step, .int .i64 rise, .slice ao R.length cap] 26)).alloc (.cells #[.int .i64 0, .int .i64 0, .slice none 0 0] 26)) w.heap.size (.int .i64 step) (.int .i64 rise) (.slice ao R.length cap) := (box3_alloc w _ _ _ 26).step (Below.alloc1 _ _)
  have O2 : OwnV ((w.alloc (.cells #[.int .i64 step, .int .i64 rise, .slice ao R.length cap] 26)).alloc (.cells #[.int .i64 0, .int .i64 0, .slice none 0 0] 26)) (w.heap.size + 1) [.int .i64 0, .int .i64 0, .slice none 0 0] := by
    have := ownV_alloc (w.alloc (.cells #[.int .i64 step, .int .i64 rise, .slice ao R.length cap] 26)) #[.int .i64 0, .int .i64 0, .slice none 0 0] 26
    simpa using this
  have HA2 := hide A2
  have HB2 := hide B2
  have HO2 := hide O2
  clear A2 B2 O2
  go_enter Try.func26, Try.ntmps26
  go_wp2_with fail
  refine (specHullOk_any step rise _ R _ ((unhide HV).below (unhide HA2))).mono ?_
  rintro e w1 ⟨rfl, hb⟩
  have HB1 := hide ((unhide HB2).step hb)
  have HW1 := hide (Below.step (unhide HA2) hb)
  have HO1 := hide ((unhide HO2).below hb (unhide HO2).lt)
  have hz : w.heap.size + 1 < w1.heap.size := (unhide HO1).lt
  clear hb HB2 HA2 HO2
  cases hok : hullOk step rise R with
  | false =>
    have E1 : Hid (mStep step rise R = 0 ∧ mRise step rise R = 0 ∧ mRows step rise R = []) := by show _ ∧ _ ∧ _; simp [mStep, mRise, mRows, hok]
    clear hok
    have r0 := (unhide HO1).cell (i := 0) rfl
    have r1 := (unhide HO1).cell (i := 1) rfl
    have r2 := (unhide HO1).cell (i := 2) rfl
    have s0 := (unhide HO1).frozen 0
    have s1 := (unhide HO1).frozen 1
    have s2 := (unhide HO1).frozen 2
    go_wp2
    refine bodyPost_ret (v := .agg #[.int .i64 0, .int .i64 0, .slice none 0 0]) (by simp [results, Try.results26, go_sem, r0, r1, r2]) rfl ⟨none, 0, 0, ?_, ?_, ?_⟩
    · rw [(unhide E1).1, (unhide E1).2.1]
    · rw [(unhide E1).2.2]; exact ⟨none, 0, rfl, Nat.le_refl _, Nat.zero_le _, fun r hr => by simp at hr⟩
    · exact (((unhide HW1).setCell (by simp) _).setCell (by simp) _).setCell (by simp) _
  | true =>
    have E1 : Hid (mStep step rise R = step ∧ mRise step rise R = rise ∧ mRows step rise R = mirrorR R) := by show _ ∧ _ ∧ _; simp [mStep, mRise, mRows, hok]
    have hR := hullOk_right hok
    have hl1 := hR.len1
    have hl2 := hR.len2
    have HR := hide hR
    clear hok hR
    obtain ⟨c0, c1, c2⟩ := unhide HB1
    have M0 : Hid (MirSt w1 (w1.alloc (.cells #[.int .i64 step, .int .i64 rise, .slice none 0 0] 26)) step rise (.slice none 0 0) (mk R 0)) :=
      ⟨Below.alloc1 _ _, ⟨_, _, Go.Deep.blk_alloc_new _ _, fun i _ => by simp⟩, Grow.start _ _ _⟩
    have c2' : ∀ o, (w1.alloc o).cell? ⟨w.heap.size, 2, none⟩ = some (.slice ao R.length cap) := fun o => ((Below.alloc1 w1 o).cell (lt_of_cell c2)).trans c2
    go_wp2
    clear c0 c1 c2 c2'
    go_loopg [4] R.length (fun gh sv wr => ∃ k : Nat, ∃ ov, k ≤ R.length ∧ gh = R.length - k ∧ sv = .int .i64 ((R.length : Int) - 1 - k) ∧ MirSt w1 wr step rise ov (mk R k))
    case atStart => exact ⟨0, _, Nat.zero_le _, rfl, by go_num, unhide M0⟩
    case round =>
      obtain ⟨k, ov, hk, rfl, rfl, hM⟩ := hrel
      clear M0
      obtain ⟨ao2, cap2, eov, _, _, _⟩ := hM.grow.rowsIn
      rw [mk_len] at eov
      subst eov
      have HM := hide hM
      obtain ⟨c0, c1, c2⟩ := (unhide HB1).step hM.below
      have HWr := hide (Below.step (unhide HW1) hM.below)
      clear hM
      by_cases hkn : k < R.length
      · obtain ⟨b, o, ar, m, cr, rfl, hcell, hrow, EM, hm0⟩ := rowAt (unhide HC) (show R.length - 1 - k < R.length by omega)
        have hm1 : 2 ≤ m := by rw [← unhide EM, (unhide HR).even _ (by omega)]; exact (unhide HR).wat1
        have hm2 : m ≤ 10 := by rw [← unhide EM, (unhide HR).even _ (by omega)]; exact (unhide HR).wat2
        obtain ⟨b1, o1, rfl, _⟩ := intAt hrow (show 0 < m by omega)
        have es : ((R.length : Int) - 1 - (k : Int)).toNat = R.length - 1 - k := by omega
        have i1 : (0 : Int) ≤ (R.length : Int) - 1 - (k : Int) := by omega
        have i2 : (R.length : Int) - 1 - (k : Int) < (R.length : Int) := by omega
        have q1 : wr.cell? ⟨b, o + (R.length - 1 - k), none⟩ = some (.slice (some ⟨b1, o1, none⟩) m cr) := ((unhide HWr).cell (lt_of_cell hcell)).trans hcell
        have q2 := (unhide HM).box.cell (i := 2) rfl
        have hrow1 := hrow.below (unhide HWr)
        have hlq := (unhide HM).box.lt
        clear hcell c0 c1
        have p1 : ∀ o', (wr.alloc o').cell? ⟨b, o + (R.length - 1 - k), none⟩ = some (.slice (some ⟨b1, o1, none⟩) m cr) := fun o' => ((Below.alloc1 wr o').cell (lt_of_cell q1)).trans q1
        have p2 : ∀ o', (wr.alloc o').cell? ⟨w1.heap.size, 2, none⟩ = some (.slice ao2 k cap2) := fun o' => ((Below.alloc1 wr o').cell (lt_of_cell q2)).trans q2
        have p3 : ∀ o', (wr.alloc o').cell? ⟨w.heap.size, 2, none⟩ = some (.slice (some ⟨b, o, none⟩) R.length cap) := fun o' => ((Below.alloc1 wr o').cell (lt_of_cell c2)).trans c2
        obtain ⟨row, erow⟩ : ∃ row, row = R.getD (R.length - 1 - k) [] := ⟨_, rfl⟩
        rw [← erow] at hrow1
        have hrl : row.length = m := hrow1.len.1
        have hnews : ∀ j u, (ints row)[j]? = some u → ((wr.alloc (.cells #[] 3)).drew).cell? ((⟨b1, o1, none⟩ : Addr).add j) = some u := fun j u hu => by
          have hj : j < row.length := by
            rcases Nat.lt_or_ge j row.length with h | h
            · exact h
            · rw [List.getElem?_eq_none (by rw [ints_length]; exact h)] at hu; cases hu
          obtain ⟨b', o', e, hx⟩ := intAt hrow1 (by omega : j < m)
          simp only [Option.some.injEq, Addr.mk.injEq, and_true] at e
          obtain ⟨rfl, rfl⟩ := e
          rw [Go.WideShapes.add_plain, ← hu, ints_get row hj]
          exact ((Below.alloc1 wr _).cell (lt_of_cell hx)).trans hx
        have h1c : ∀ u ∈ ints row, u.oneCell' = true := fun u hu => by
          obtain ⟨x, _, rfl⟩ := List.mem_map.1 hu
          rfl
        have OE : (wr.alloc (.cells #[] 3)).ownsRow wr.heap.size 3 1 (.slice (some ⟨wr.heap.size, 0, none⟩) 0 0) 0 (ints []) :=
          ⟨rfl, Or.inr ⟨wr.heap.size, 0, #[], rfl, Nat.le_refl _, Go.Deep.blk_alloc_new _ _, Nat.le_refl _, Nat.zero_le _, rfl, rfl⟩⟩
        obtain ⟨vals, hvo, hvr⟩ := (unhide HM).grow
        rw [mk_len] at hvo
        obtain ⟨i0, hi, hz0, hz1, hz2⟩ := info_parts Try.info3
        obtain ⟨i3, hi', hz0', hz1', hz2'⟩ := info_parts Try.info31
        have HNW := hide hnews
        have H1C := hide h1c
        have HOE := hide OE.drew
        have HVO := hide hvo
        have HVR' := hide hvr
        have HRL := hide hrl
        have HER := hide erow
        have hil : (ints row).length = m * 1 := by rw [ints_length, hrl]; omega
        have HIL := hide hil
        clear hnews h1c OE hvo hvr hrl erow hil hrow1 hrow hm0
        go_wp2
        go_region_law (first | (refine step_append_lies _ (by rfl) (.tmp 24) (.tmp 29) 31 (by rfl) wr.heap.size 3 i0 (.int .i64 0) 1 8 Try.underlying31 hi hz0 hz1 hz2 rfl (by decide) (.slice (some ⟨wr.heap.size, 0, none⟩) 0 0) 0 (ints []) (by rfl) (unhide HOE) ⟨b1, o1, none⟩ m cr (ints row) (by rfl) (unhide HIL) (unhide HNW) (unhide H1C) (by omega) (by unfold maxLen; omega) (by omega) (by simp) (wr.heap.size + 1) (by simp) ?_; intro g1 cap1 wa hown1 hgrow1 hat1 hlt1; have HB1a : Hid (Below wr.heap.size wr wa) := ((((Below.refl _ wr).alloc (Nat.le_refl _) _).drew).grown hgrow1 (by simp) (fun k hk => by simp [Value.ownBlock] at hk; omega)); have HH1 := hide hown1; have pa2 : wa.cell? ⟨w1.heap.size, 2, none⟩ = some (.slice ao2 k cap2) := (((unhide HB1a).cell (lt_of_cell q2)).trans q2); have pa3 : ∀ o', (wa.alloc o').cell? ⟨w1.heap.size, 2, none⟩ = some (.slice ao2 k cap2) := (fun o' => ((Below.alloc1 wa o').cell (lt_of_cell pa2)).trans pa2); clear hown1 hgrow1 hat1) | (refine step_append_lies _ (by rfl) (.tmp 23) (.tmp 31) 24 (by rfl) (w1.heap.size + 1) 31 i3 (.slice none 0 0) 1 24 Try.underlying24 hi' hz0' hz1' hz2' rfl (by decide) (.slice ao2 k cap2) k vals (by rfl) ((ownsRow_kept (T := fun _ => False) (unhide HVO) (kept_of_below (unhide HB1a)) (fun _ _ _ _ h => h)).alloc _) ⟨wa.heap.size, 0, none⟩ 1 1 [.slice (some ⟨g1, 0, none⟩) m cap1] (by rfl) (by rfl) (cell_one_new _ _ _) (by simp [Value.oneCell']) (by omega) (by unfold maxLen; omega) (by omega) (by have := (unhide HB1a).size; simp; omega) (wa.heap.size + 1) (by simp) ?_; intro g2 cap3 wb hown2 hgrow2 hat2 hlt2; have hbl : ∀ k', (Value.slice ao2 k cap2).ownBlock = some k' → w1.heap.size + 1 ≤ k' ∧ k' < wr.heap.size := (fun k' hk' => (unhide HVO).lt k' hk'); have hOw := mir_inner (unhide HH1) (by omega) (unhide HRL); have HN := hide (MirSt.push (mk_len R k) (unhide HM) (unhide HB1a) (unhide HVR') (by have := (unhide HVO).1; rw [mk_len]; omega) hOw.2.2.2 hOw.1 (by rw [unhide HRL]; exact hOw.2.1) hOw.2.2.1 hbl (by rw [unhide HRL]; exact hown2) hgrow2 hat2); have hbx := (((unhide HM).box.below (unhide HB1a) (by omega)).alloc (.cells #[.slice (some ⟨g1, 0, none⟩) m cap1] 31)).of_block (hgrow2.block w1.heap.size (by have := (unhide HB1a).size; simp; omega) (fun e => by have := (hbl _ e.symm).1; omega)); have t2 := hbx.cell (i := 2) rfl; have f2 := hbx.frozen 2; clear hown2 hgrow2 hat2 hbl hOw hbx))
        all_goals (go_wp2; go_roundg (R.length - (k + 1)))
        all_goals first | omega | exact ⟨k + 1, _, by omega, rfl, by go_num, by rw [mk_succ, ← unhide HER]; exact unhide HN⟩
      · have hkk : k = R.length := by omega
        have hr := (unhide HM).grow.rowsIn
        have hO := (unhide HO1).below (unhide HM).below (unhide HO1).lt
        have hX := (unhide HM).box
        have r0 := hO.cell (i := 0) rfl
        have r1 := hO.cell (i := 1) rfl
        have r2 := hO.cell (i := 2) rfl
        have s0 := hO.frozen 0
        have s1 := hO.frozen 1
        have s2 := hO.frozen 2
        have t0 := hX.cell (i := 0) rfl
        have t1 := hX.cell (i := 1) rfl
        have t2 := hX.cell (i := 2) rfl
        have HMm := hide (unhide HM)
        have HKK := hide hkk
        clear hO hX hr hkk c0 c1 c2
        go_wp2
        refine bodyPost_ret (v := .agg #[.int .i64 step, .int .i64 rise, .slice ao2 k cap2]) (by simp [results, Try.results26, go_sem, r0, r1, r2]) rfl ⟨ao2, k, cap2, ?_, ?_, ?_⟩
        · rw [(unhide E1).1, (unhide E1).2.1]
        · rw [(unhide E1).2.2, ← mk_all, ← unhide HKK]
          exact ((unhide HMm).grow.kept (mir_out wr (w.heap.size + 1) _ _ _) (fun g hg _ e => by omega)).rowsIn
        · exact (((unhide HWr).setCell (by simp) _).setCell (by simp) _).setCell (by simp) _

end Go.Proofs.Yticcjdcglfiggaa
