/- The hull seen from the other end: the contract of the program's Mirror. -/
import Derived.Test.YticcjdcglfiggaaOwnCp
namespace Go.Proofs.Yticcjdcglfiggaa
open Go.RowKit

/-- The rows from the other end. -/
def mirrorR (R : List (List Int)) : List (List Int) := (List.range R.length).map fun s : Nat => R.getD (R.length - 1 - s) []

theorem mirrorR_len (R : List (List Int)) : (mirrorR R).length = R.length := by simp [mirrorR]
theorem mirrorR_get (R : List (List Int)) {s : Nat} (h : s < R.length) : (mirrorR R).getD s [] = R.getD (R.length - 1 - s) [] := by simp [mirrorR, List.getD, h]

def mStep (step rise : Int) (R : List (List Int)) : Int := if hullOk step rise R = true then step else 0
def mRise (step rise : Int) (R : List (List Int)) : Int := if hullOk step rise R = true then rise else 0
def mRows (step rise : Int) (R : List (List Int)) : List (List Int) := if hullOk step rise R = true then mirrorR R else []

set_option maxHeartbeats 1600000 in
theorem implMirror_any (step rise : Int) (v : Value) (R : List (List Int)) (w : World) (h : RowsIn w v R) :
    Calls Try.prog 11 #[hullV step rise v] w fun e w' => ∃ ao n cap, e = .returned (hullV (mStep step rise R) (mRise step rise R) (.slice ao n cap)) ∧ OwnRowsV w.heap.size w' (.slice ao n cap) (mRows step rise R) ∧ Below w.heap.size w w' := by
  have HV := hide h
  obtain ⟨ao, cap, rfl, hl, hm, hc⟩ := h
  unfold maxLen at hm
  clear hc
  unfold hullV
  have A2 : Below w.heap.size w ((w.alloc (.cells #[.int .i64 step, .int .i64 rise, .slice ao R.length cap] 26)).alloc (.cells #[.int .i64 0, .int .i64 0, .slice none 0 0] 26)) := (Below.alloc1 _ _).alloc (by simp) _
  have B2 : Box3 ((w.alloc (.cells #[.int .i64 step, .int .i64 rise, .slice ao R.length cap] 26)).alloc (.cells #[.int .i64 0, .int .i64 0, .slice none 0 0] 26)) w.heap.size (.int .i64 step) (.int .i64 rise) (.slice ao R.length cap) := (box3_alloc w _ _ _ 26).step (Below.alloc1 _ _)
  have O2 : OwnV ((w.alloc (.cells #[.int .i64 step, .int .i64 rise, .slice ao R.length cap] 26)).alloc (.cells #[.int .i64 0, .int .i64 0, .slice none 0 0] 26)) (w.heap.size + 1) [.int .i64 0, .int .i64 0, .slice none 0 0] := by
    have := ownV_alloc (w.alloc (.cells #[.int .i64 step, .int .i64 rise, .slice ao R.length cap] 26)) #[.int .i64 0, .int .i64 0, .slice none 0 0] 26
    simpa using this
  have HA2 := hide A2
  have HB2 := hide B2
  have HO2 := hide O2
  clear A2 B2 O2
  go_enter Try.func11, Try.ntmps11
  go_wp2_with fail
  refine (implHullOk_any step rise _ R _ ((unhide HV).below (unhide HA2))).mono ?_
  rintro e w1 ⟨rfl, hb⟩
  have HB1 := hide ((unhide HB2).step hb)
  have HW1 := hide (Below.step (unhide HA2) hb)
  have HO1 := hide ((unhide HO2).below hb (unhide HO2).lt)
  have hz : w.heap.size + 1 < w1.heap.size := (unhide HO1).lt
  clear hb HB2 HA2 HO2
  cases hok : hullOk step rise R with
  | false =>
    have E1 : Hid (mStep step rise R = 0 ∧ mRise step rise R = 0 ∧ mRows step rise R = []) := by show _ ∧ _ ∧ _; simp [mStep, mRise, mRows, hok]
    clear hok
    have r0 := (unhide HO1).cell (i := 0) rfl
    have r1 := (unhide HO1).cell (i := 1) rfl
    have r2 := (unhide HO1).cell (i := 2) rfl
    have s0 := (unhide HO1).frozen 0
    have s1 := (unhide HO1).frozen 1
    have s2 := (unhide HO1).frozen 2
    go_wp2
    refine bodyPost_ret (v := .agg #[.int .i64 0, .int .i64 0, .slice none 0 0]) (by simp [results, Try.results11, go_sem, r0, r1, r2]) rfl ⟨none, 0, 0, ?_, ?_, ?_⟩
    · rw [(unhide E1).1, (unhide E1).2.1]
    · rw [(unhide E1).2.2]; exact Or.inl ⟨rfl, rfl⟩
    · exact (((unhide HW1).setCell (by simp) _).setCell (by simp) _).setCell (by simp) _
  | true =>
    have E1 : Hid (mStep step rise R = step ∧ mRise step rise R = rise ∧ mRows step rise R = mirrorR R) := by show _ ∧ _ ∧ _; simp [mStep, mRise, mRows, hok]
    have hR := hullOk_right hok
    have hl1 := hR.len1
    have hl2 := hR.len2
    have HR := hide hR
    clear hok hR
    have hmk := run_make_row' (P := Try.prog) 24 31 (.slice none 0 0) 24 Try.underlying24 Try.info31 rfl .i64 .i64 R.length (by omega) (by omega)
    obtain ⟨c0, c1, c2⟩ := unhide HB1
    go_wp2
    clear hmk c0 c1 c2
    go_loopg [20] R.length (fun gh iv wr => ∃ k : Nat, ∃ G C, k ≤ R.length ∧ gh = R.length - k ∧ iv = .int .i64 k ∧ FillM w1 wr (mirrorR R) k G C)
    case atStart => exact ⟨0, _, _, Nat.zero_le _, rfl, rfl, fillM_start _ _ _ (mirrorR_len R).symm⟩
    case round =>
      obtain ⟨k, G, C, hk, rfl, rfl, hF⟩ := hrel
      obtain ⟨c0, c1, c2⟩ := (unhide HB1).step hF.below
      have HWr := hide (Below.step (unhide HW1) hF.below)
      have HF := hide hF
      clear hF
      by_cases hkn : k < R.length
      · have HS := hide (station_any step rise _ R ((R.length : Int) - 1 - (k : Int)) (R.length - 1 - k) wr ((unhide HV).below (unhide HWr)) (by omega) (by omega))
        go_wp2_with fail
        refine (unhide HS).mono ?_
        rintro e w2 ⟨ar, m, rfl, hi, hb2⟩
        have hml : m = (R.getD 0 []).length := by rw [← (unhide HR).even (R.length - 1 - k) (by omega)]; exact hi.len.1.symm
        have hm1 : 2 ≤ m := by rw [hml]; exact (unhide HR).wat1
        have hm2 : m ≤ 10 := by rw [hml]; exact (unhide HR).wat2
        have EM : Hid ((R.getD (R.length - 1 - k) []).length = m) := hi.len.1
        have HI := hide (hi.below hb2)
        have HB2 := hide hb2
        clear hi hb2 hml HS c0 c1 c2
        go_wp2_with fail
        refine (ownCopy_any ar m m _ w2 (unhide HI) (by omega) (by omega)).mono ?_
        rintro e w3 ⟨g, cap3, rfl, hg, hc1, hc2, hov, hb3⟩
        rw [← mirrorR_get R hkn] at hov EM
        have HN := hide (fillM_step (unhide HF) (unhide HB2) hg hov hb3 (by rw [unhide EM]; exact hc1) hc2)
        rw [unhide EM] at HN
        have hbt := ((unhide HF).top.of_block ((unhide HB2).block _ (unhide HF).top.lt)).of_block (hb3.block _ (Nat.lt_of_lt_of_le (unhide HF).top.lt (unhide HB2).size))
        have t1 : w3.cell? ⟨w1.heap.size, k, none⟩ = some (.slice none 0 0) := by
          have h3 := hbt.cell (i := k) (by rw [mirrorR_len]; exact hkn)
          rwa [if_neg (Nat.lt_irrefl k)] at h3
        have t2 : w3.frozen? ⟨w1.heap.size, k, none⟩ = false := hbt.frozen k
        clear hov hb3 hg hc1 hc2 hbt HI HB2
        go_wp2
        go_roundg (R.length - (k + 1))
        case measure => omega
        case rel => exact ⟨k + 1, _, _, by omega, rfl, by go_num, unhide HN⟩
      · have hkk : k = R.length := by omega
        have HF' : Hid (FillM w1 wr (mirrorR R) (mirrorR R).length G C) := by show FillM _ _ _ _ _ _; rw [mirrorR_len, ← hkk]; exact unhide HF
        have hO := (unhide HO1).below (unhide HF).below (unhide HO1).lt
        have r0 := hO.cell (i := 0) rfl
        have r1 := hO.cell (i := 1) rfl
        have r2 := hO.cell (i := 2) rfl
        have s0 := hO.frozen 0
        have s1 := hO.frozen 1
        have s2 := hO.frozen 2
        clear hO HF hkk
        go_wp2
        refine bodyPost_ret (v := .agg #[.int .i64 step, .int .i64 rise, .slice (some ⟨w1.heap.size, 0, none⟩) R.length R.length]) (by simp [results, Try.results11, go_sem, r0, r1, r2]) rfl ⟨some ⟨w1.heap.size, 0, none⟩, R.length, R.length, ?_, ?_, ?_⟩
        · rw [(unhide E1).1, (unhide E1).2.1]
        · rw [(unhide E1).2.2]
          refine Or.inr ⟨w1.heap.size, G, C, R.length, by rw [mirrorR_len], by rw [mirrorR_len]; exact Nat.le_refl _, by unfold maxLen; omega, ?_⟩
          exact ((((fillM_done (unhide HF')).setBelow (by simpa using hz) _).setBelow (by simpa using hz) _).setBelow (by simpa using hz) _).mono (by omega)
        · exact (((unhide HWr).setCell (by simp) _).setCell (by simp) _).setCell (by simp) _

end Go.Proofs.Yticcjdcglfiggaa
