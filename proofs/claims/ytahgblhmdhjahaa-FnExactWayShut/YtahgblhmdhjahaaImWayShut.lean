/- Contract of the program's WayShut. Written by wip/mkimse2.py. -/
import Derived.Test.YtahgblhmdhjahaaImWayCost
namespace Go.Proofs.Ytahgblhmdhjahaa
open Go.RowKit

set_option maxRecDepth 10000 in
set_option maxHeartbeats 8000000 in
theorem implWayShut_any (s : Se) (dao : Option Addr) (dn dc : Nat) (fao : Option Addr) (fn fc : Nat) (v : Value) (M : List Int) (w : World) (hD : IntsIn w (.slice dao dn dc) s.D) (hF : RClosed w (.slice fao fn fc) s.F) (hM : IntsIn w v M) :
    Calls Try.prog 21 #[vSea s.wd s.hg (.slice dao dn dc) (.slice fao fn fc), v] w fun e w' => e = .returned (.tuple #[.int .i64 (wayShut s M).1, .bool (wayShut s M).2]) ∧ Below w.heap.size w w' := by
  have A := Below.alloc1 w (.cells #[.int .i64 s.wd, .int .i64 s.hg, .slice dao dn dc, .slice fao fn fc] 27)
  have O := ownV_alloc w #[.int .i64 s.wd, .int .i64 s.hg, .slice dao dn dc, .slice fao fn fc] 27
  have HWC := hide (implWayCost_any s dao dn dc fao fn fc v M _ (hD.below A) (hF.below A) (hM.below A))
  have HF := hide (hF.below A)
  obtain ⟨mao, mc, rfl, hml, hmm, hmc⟩ := hM
  unfold maxLen at hmm
  have HMC := hide hmc
  have HW := hide A
  have HO := hide O
  clear A O hD hF hmc
  unfold vSea at HWC ⊢
  cases h1 : wayB s M with
  | false =>
    have HN : Hid (wayShut s M = (-1, false)) := by show _ = _; unfold wayShut; rw [h1]; rfl
    rw [wayCost_no h1] at HWC
    dsimp only at HWC
    go_enter Try.func21, Try.ntmps21
    go_wp2_with fail
    refine (unhide HWC).mono ?_
    rintro e w1 ⟨rfl, hb⟩
    replace HW := hide (Below.step (unhide HW) hb)
    clear hb HWC
    go_wp2
    refine bodyPost_ret (v := .tuple #[.int .i64 (-1), .bool false]) (by simp [results, Try.results21, go_sem]) rfl ⟨by rw [unhide HN], unhide HW⟩
  | true =>
  obtain ⟨hn, hm2, hst⟩ := wayB_n h1
  rw [wayCost_yes h1] at HWC
  dsimp only at HWC
  have HY := hide (wayShut_yes h1)
  have HN := hide hn
  have HST := hide hst
  clear hn hst h1
  generalize wsum s M M.length = sm at *
  go_enter Try.func21, Try.ntmps21
  go_wp2_with fail
  refine (unhide HWC).mono ?_
  rintro e w1 ⟨rfl, hb⟩
  replace HW := hide (Below.step (unhide HW) hb)
  replace HO := hide (OwnV.step (unhide HO) hb)
  replace HF := hide ((unhide HF).below hb)
  clear hb HWC
  go_wp2
  go_loopg [20] M.length (fun g i wr => Below w1.heap.size w1 wr ∧ ∃ k : Nat, k ≤ M.length ∧ g = M.length - k ∧ i = .int .i64 k ∧ Hid (∀ r, r < k → shutAt s M r = false))
  case atStart => exact ⟨Below.refl _ _, 0, Nat.zero_le _, rfl, rfl, fun r hr => by omega⟩
  case round =>
    obtain ⟨hWq, k, hk, rfl, rfl, HS⟩ := hrel
    have hA := Below.step (unhide HW) hWq
    by_cases hkn : k < M.length
    case neg =>
      have HQ := hide ((unhide HY).trans (shutOf_no (fun r hr => unhide HS r (by omega))))
      have hki : ¬ (k : Int) < M.length := by omega
      have HA := hide hA
      clear HS hA hWq
      go_wp2
      refine bodyPost_ret (v := .tuple #[.int .i64 (-1), .bool false]) (by simp [results, Try.results21, go_sem]) rfl ⟨by rw [unhide HQ], unhide HA⟩
    have hO := OwnV.step (unhide HO) hWq
    obtain ⟨bm, om, rfl, hcm⟩ := unhide HMC k hkn
    obtain ⟨pi, epi, hpi⟩ := step_on (unhide HST k hkn)
    have e0 := wcell3 hcm hA
    rw [epi] at e0
    have b0 := hO.cell (i := 0) rfl
    have b1 := hO.cell (i := 1) rfl
    have b2 := hO.cell (i := 2) rfl
    have b3 := hO.cell (i := 3) rfl
    have hki : (k : Int) < M.length := by omega
    have HFF := hide ((unhide HF).below hWq)
    have S1 := hide (isShut_any s (pi : Int) (k : Int) (.slice dao dn dc) fao fn fc wr (unhide HN) (unhide HFF) (by omega) (by omega))
    unfold vSea at S1
    have EK : Hid (shutAt s M k = shutB s (pi : Int) (k : Int)) := by show _ = _; unfold shutAt; rw [epi]
    have HWq := hide hWq
    have HA := hide hA
    clear hcm hA hWq hO epi
    cases h3 : shutB s (pi : Int) (k : Int)
    · rw [h3] at S1 EK
      have HS' : Hid (∀ r, r < k + 1 → shutAt s M r = false) := fun r hr => by
        by_cases e : r = k
        · rw [e]; exact unhide EK
        · exact unhide HS r (by omega)
      clear HS h3
      go_wp2_with fail
      refine (unhide S1).mono ?_
      rintro e w2 ⟨rfl, hb⟩
      replace HWq := hide (Below.step (unhide HWq) hb)
      clear hb
      go_wp2
      go_roundg (M.length - (k + 1))
      case measure => omega
      case rel => exact ⟨unhide HWq, k + 1, by omega, rfl, by go_num, HS'⟩
    · rw [h3] at S1 EK
      have HQ := hide ((unhide HY).trans (shutOf_yes hkn (unhide HS) (unhide EK)))
      clear HS h3
      go_wp2_with fail
      refine (unhide S1).mono ?_
      rintro e w2 ⟨rfl, hb⟩
      replace HA := hide (Below.step (unhide HA) hb)
      clear hb
      go_wp2
      refine bodyPost_ret (v := .tuple #[.int .i64 (k : Int), .bool true]) (by simp [results, Try.results21, go_sem]) rfl ⟨by rw [unhide HQ], unhide HA⟩

end Go.Proofs.Ytahgblhmdhjahaa
