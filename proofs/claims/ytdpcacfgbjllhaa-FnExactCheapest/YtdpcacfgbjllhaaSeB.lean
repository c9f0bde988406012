/- Seas in numbers; contract of the specification's SeaOk. Written by wip/mksea.py. -/
import Derived.Test.YtdpcacfgbjllhaaSeA
import Derived.Test.YtdpcacfgbjllhaaSgB
import Derived.Test.YtdpcacfgbjllhaaWalkE
namespace Go.Proofs.Ytdpcacfgbjllhaa
open Go.RowKit

/-- A sea in numbers. -/
structure Se where
  wd : Int
  hg : Int
  D : List Int
  F : List ClosedT
def clB (c : ClosedT) : Bool := inB c.1 0 c.2.2.1 && inB c.2.1 0 c.2.2.2.1 && decide (c.2.2.1 < 12) && decide (c.2.2.2.1 < 12) && inB c.2.2.2.2.1 0 c.2.2.2.2.2 && decide (c.2.2.2.2.2 ≤ 1000000)
def sea0B (s : Se) : Bool := inB s.wd 1 12 && inB s.hg 1 12 && decide ((s.D.length : Int) = s.wd * s.hg) && decide (s.F.length ≤ 10) && s.D.all (fun d => inB d 0 1000)
def seaB (s : Se) : Bool := sea0B s && s.F.all clB
theorem mul_s12 {x y : Int} (hx0 : 1 ≤ x) (hx1 : x ≤ 12) (hy0 : 1 ≤ y) (hy1 : y ≤ 12) : 1 ≤ x * y ∧ x * y ≤ 144 := by
  have h : x = 1 ∨ x = 2 ∨ x = 3 ∨ x = 4 ∨ x = 5 ∨ x = 6 ∨ x = 7 ∨ x = 8 ∨ x = 9 ∨ x = 10 ∨ x = 11 ∨ x = 12 := by omega
  rcases h with rfl | rfl | rfl | rfl | rfl | rfl | rfl | rfl | rfl | rfl | rfl | rfl <;> omega
/-- What SeaOk says of the numbers. -/
structure SeaN (s : Se) : Prop where
  w0 : 1 ≤ s.wd
  w1 : s.wd ≤ 12
  h0 : 1 ≤ s.hg
  h1 : s.hg ≤ 12
  len : (s.D.length : Int) = s.wd * s.hg
  le : s.D.length ≤ 144
  pos : 1 ≤ s.D.length
  shut : s.F.length ≤ 10
  cost : ∀ i, i < s.D.length → 0 ≤ s.D.getD i 0 ∧ s.D.getD i 0 ≤ 1000
  closed : ∀ c ∈ s.F, clB c = true
theorem seaB_n {s : Se} (h : seaB s = true) : SeaN s := by
  unfold seaB sea0B at h
  simp only [Bool.and_eq_true, decide_eq_true_eq, List.all_eq_true] at h
  obtain ⟨⟨⟨⟨⟨h1, h2⟩, h3⟩, h4⟩, h5⟩, h6⟩ := h
  obtain ⟨a1, a2⟩ := inB_true h1
  obtain ⟨a3, a4⟩ := inB_true h2
  have hm := mul_s12 a1 a2 a3 a4
  exact ⟨a1, a2, a3, a4, h3, by omega, by omega, h4, fun i hi => inB_true (h5 _ (by rw [getD_lt hi]; exact List.getElem_mem _)), h6⟩


set_option maxRecDepth 10000 in
set_option maxHeartbeats 16000000 in
theorem specSeaOk_any (s : Se) (dao : Option Addr) (dn dc : Nat) (fao : Option Addr) (fn fc : Nat) (w : World) (hD : IntsIn w (.slice dao dn dc) s.D) (hF : RClosed w (.slice fao fn fc) s.F) :
    Calls Try.prog 48 #[vSea s.wd s.hg (.slice dao dn dc) (.slice fao fn fc)] w fun e w' => e = .returned (.bool (seaB s)) ∧ Below w.heap.size w w' := by
  obtain ⟨wd, hg, D, F⟩ := s
  dsimp only at hD hF ⊢
  have A := Below.alloc1 w (.cells #[.int .i64 wd, .int .i64 hg, .slice dao dn dc, .slice fao fn fc] 27)
  have O := ownV_alloc w #[.int .i64 wd, .int .i64 hg, .slice dao dn dc, .slice fao fn fc] 27
  have HALL := hide (l3All_any _ D 0 1000 _ (hD.below A))
  obtain ⟨dao', dc', eD, hdl, hdm, hdc⟩ := hD
  obtain ⟨fao', fc', eF, hfl, hfm, hfc⟩ := hF
  simp only [Value.slice.injEq] at eD eF
  obtain ⟨rfl, rfl, rfl⟩ := eD
  obtain ⟨rfl, rfl, rfl⟩ := eF
  unfold maxLen at hdm hfm
  have HFC := hide hfc
  have HW := hide A
  have HO := hide O
  clear A O hdc hfc
  unfold vSea
  cases h1 : inB wd 1 12
  · have HN : Hid (seaB ⟨wd, hg, D, F⟩ = false) := by show _ = _; unfold seaB sea0B; dsimp only; rw [h1]; simp
    go_enter Try.func48, Try.ntmps48
    go_wp2_with (go_at_call 62; refine (l1In_any _ _ _ _).mono ?_; rintro e w' ⟨rfl, h9⟩; have h8 := h9.symm; subst h8; clear h9)
    go_ret
    exact ⟨by rw [unhide HN]; rfl, unhide HW⟩
  cases h2 : inB hg 1 12
  · have HN : Hid (seaB ⟨wd, hg, D, F⟩ = false) := by show _ = _; unfold seaB sea0B; dsimp only; rw [h2]; simp
    go_enter Try.func48, Try.ntmps48
    go_wp2_with (go_at_call 62; refine (l1In_any _ _ _ _).mono ?_; rintro e w' ⟨rfl, h9⟩; have h8 := h9.symm; subst h8; clear h9)
    go_ret
    exact ⟨by rw [unhide HN]; rfl, unhide HW⟩
  obtain ⟨hw0, hw1⟩ := inB_true h1
  obtain ⟨hh0, hh1⟩ := inB_true h2
  obtain ⟨p, ep⟩ : ∃ p, p = wd * hg := ⟨_, rfl⟩
  have hp : 1 ≤ p ∧ p ≤ 144 := by rw [ep]; exact mul_s12 hw0 hw1 hh0 hh1
  obtain ⟨hp0, hp1⟩ := hp
  have qp : IntKind.i64.wrap (wd * hg) = p := by rw [← ep, IntKind.wrap_i64]; omega
  have EP := hide ep
  clear ep
  by_cases h3 : (D.length : Int) = p
  case neg =>
    have HN : Hid (seaB ⟨wd, hg, D, F⟩ = false) := by show _ = _; unfold seaB sea0B; dsimp only; rw [← unhide EP, decide_eq_false h3]; simp
    have d3 : ((D.length : Int) != p) = true := by simp; exact h3
    have d3' : ((D.length : Int) == p) = false := by simp; exact h3
    go_enter Try.func48, Try.ntmps48
    go_wp2_with (go_at_call 62; refine (l1In_any _ _ _ _).mono ?_; rintro e w' ⟨rfl, h9⟩; have h8 := h9.symm; subst h8; clear h9)
    go_ret
    exact ⟨by rw [unhide HN]; rfl, unhide HW⟩
  have d3 : ((D.length : Int) != p) = false := by simp; exact h3
  have d3' : ((D.length : Int) == p) = true := by simp; exact h3
  by_cases h4 : F.length ≤ 10
  case neg =>
    have HN : Hid (seaB ⟨wd, hg, D, F⟩ = false) := by show _ = _; unfold seaB sea0B; dsimp only; rw [decide_eq_false h4]; simp
    have h4i : (10 : Int) < F.length := by omega
    go_enter Try.func48, Try.ntmps48
    go_wp2_with (go_at_call 62; refine (l1In_any _ _ _ _).mono ?_; rintro e w' ⟨rfl, h9⟩; have h8 := h9.symm; subst h8; clear h9)
    go_ret
    exact ⟨by rw [unhide HN]; rfl, unhide HW⟩
  have h4i : (F.length : Int) ≤ 10 := by omega
  cases h5 : (D.all fun x => inB x 0 1000)
  · have HN : Hid (seaB ⟨wd, hg, D, F⟩ = false) := by show _ = _; unfold seaB sea0B; dsimp only; rw [h5]; simp
    rw [h5] at HALL
    go_enter Try.func48, Try.ntmps48
    go_wp2_with (first | (go_at_call 62; refine (l1In_any _ _ _ _).mono ?_; rintro e w' ⟨rfl, h9⟩; have h8 := h9.symm; subst h8; clear h9) | (go_at_call 63; refine (unhide HALL).mono ?_; rintro e w' ⟨rfl, h9⟩; have h8 := h9.symm; subst h8; clear h9))
    go_ret
    exact ⟨by rw [unhide HN]; rfl, unhide HW⟩
  rw [h5] at HALL
  have HH : Hid (sea0B ⟨wd, hg, D, F⟩ = true) := by show _ = _; unfold sea0B; dsimp only; rw [h1, h2, h5, ← unhide EP, decide_eq_true h3, decide_eq_true h4]; rfl
  go_enter Try.func48, Try.ntmps48
  go_wp2_with (first | (go_at_call 62; refine (l1In_any _ _ _ _).mono ?_; rintro e w' ⟨rfl, h9⟩; have h8 := h9.symm; subst h8; clear h9) | (go_at_call 63; refine (unhide HALL).mono ?_; rintro e w' ⟨rfl, h9⟩; have h8 := h9.symm; subst h8; clear h9))
  clear h1 h2 h5 d3 d3' h3 qp HALL
  obtain ⟨W0, eW⟩ : ∃ z, z = w.alloc (.cells #[.int .i64 wd, .int .i64 hg, .slice dao D.length dc, .slice fao F.length fc] 27) := ⟨_, rfl⟩
  rw [← eW] at HW HO ⊢
  clear eW
  go_loopg [3] F.length (fun g i wr => Below W0.heap.size W0 wr ∧ ∃ k : Nat, k ≤ F.length ∧ g = F.length - k ∧ i = .int .i64 k ∧ Hid (∀ r, r < k → clB (F.getD r default) = true))
  case atStart => exact ⟨Below.refl _ _, 0, Nat.zero_le _, rfl, rfl, fun r hr => by omega⟩
  case round =>
    obtain ⟨hWq, k, hk, rfl, rfl, HFF⟩ := hrel
    have hO := OwnV.step (unhide HO) hWq
    have hA := Below.step (unhide HW) hWq
    have b3 := hO.cell (i := 3) rfl
    clear hO
    by_cases hkn : k < F.length
    · obtain ⟨b, o, x0, x1, x2, x3, x4, x5, rfl, hc0, hc1, hc2, hc3, hc4, hc5, EX⟩ := recClosedAt (unhide HFC) hkn
      have g0 := wcell3 hc0 hA
      have g1 := wcell3 hc1 hA
      have g2 := wcell3 hc2 hA
      have g3 := wcell3 hc3 hA
      have g4 := wcell3 hc4 hA
      have g5 := wcell3 hc5 hA
      have HWA := hide (Below.step hWq (Below.alloc1 wr (.cells #[.int .i64 x0, .int .i64 x1, .int .i64 x2, .int .i64 x3, .int .i64 x4, .int .i64 x5] 87)))
      have hkF : (k : Int) < F.length := by omega
      have HNO : Hid (clB (x0, x1, x2, x3, x4, x5) = false → seaB ⟨wd, hg, D, F⟩ = false) := fun h => by
        unfold seaB
        dsimp only
        rw [all_false (xs := F) (p := clB) (d := default) (i := k) hkn (by rw [unhide EX]; exact h)]
        simp
      have HYES : Hid (clB (x0, x1, x2, x3, x4, x5) = true → ∀ r, r < k + 1 → clB (F.getD r default) = true) := fun h r hr => by
        by_cases e : r = k
        · rw [e, unhide EX]; exact h
        · exact (unhide HFF) r (by omega)
      clear hc0 hc1 hc2 hc3 hc4 hc5 hWq hA EX HFF
      cases h1 : inB x0 0 x2
      · have HN := hide (unhide HNO (by unfold clB; dsimp only; rw [h1]; simp))
        clear HNO HYES
        go_wp2_with (go_at_call 62; refine (l1In_any _ _ _ _).mono ?_; rintro e w' ⟨rfl, h9⟩; have h8 := h9.symm; subst h8; clear h9)
        go_ret
        exact ⟨by rw [unhide HN]; rfl, Below.step (unhide HW) (unhide HWA)⟩
      cases h2 : inB x1 0 x3
      · have HN := hide (unhide HNO (by unfold clB; dsimp only; rw [h2]; simp))
        clear HNO HYES
        go_wp2_with (go_at_call 62; refine (l1In_any _ _ _ _).mono ?_; rintro e w' ⟨rfl, h9⟩; have h8 := h9.symm; subst h8; clear h9)
        go_ret
        exact ⟨by rw [unhide HN]; rfl, Below.step (unhide HW) (unhide HWA)⟩
      by_cases h3 : x2 < 12
      case neg =>
        have HN := hide (unhide HNO (by unfold clB; dsimp only; rw [decide_eq_false h3]; simp))
        clear HNO HYES
        go_wp2_with (go_at_call 62; refine (l1In_any _ _ _ _).mono ?_; rintro e w' ⟨rfl, h9⟩; have h8 := h9.symm; subst h8; clear h9)
        go_ret
        exact ⟨by rw [unhide HN]; rfl, Below.step (unhide HW) (unhide HWA)⟩
      by_cases h4 : x3 < 12
      case neg =>
        have HN := hide (unhide HNO (by unfold clB; dsimp only; rw [decide_eq_false h4]; simp))
        clear HNO HYES
        go_wp2_with (go_at_call 62; refine (l1In_any _ _ _ _).mono ?_; rintro e w' ⟨rfl, h9⟩; have h8 := h9.symm; subst h8; clear h9)
        go_ret
        exact ⟨by rw [unhide HN]; rfl, Below.step (unhide HW) (unhide HWA)⟩
      cases h5 : inB x4 0 x5
      · have HN := hide (unhide HNO (by unfold clB; dsimp only; rw [h5]; simp))
        clear HNO HYES
        go_wp2_with (go_at_call 62; refine (l1In_any _ _ _ _).mono ?_; rintro e w' ⟨rfl, h9⟩; have h8 := h9.symm; subst h8; clear h9)
        go_ret
        exact ⟨by rw [unhide HN]; rfl, Below.step (unhide HW) (unhide HWA)⟩
      by_cases h6 : x5 ≤ 1000000
      case neg =>
        have HN := hide (unhide HNO (by unfold clB; dsimp only; rw [decide_eq_false h6]; simp))
        clear HNO HYES
        go_wp2_with (go_at_call 62; refine (l1In_any _ _ _ _).mono ?_; rintro e w' ⟨rfl, h9⟩; have h8 := h9.symm; subst h8; clear h9)
        go_ret
        exact ⟨by rw [unhide HN]; rfl, Below.step (unhide HW) (unhide HWA)⟩
      have HFF := hide (unhide HYES (by unfold clB; dsimp only; rw [h1, h2, h5, decide_eq_true h3, decide_eq_true h4, decide_eq_true h6]; rfl))
      clear HNO HYES
      go_wp2_with (go_at_call 62; refine (l1In_any _ _ _ _).mono ?_; rintro e w' ⟨rfl, h9⟩; have h8 := h9.symm; subst h8; clear h9)
      go_roundg (F.length - (k + 1))
      case measure => omega
      case rel => exact ⟨unhide HWA, k + 1, by omega, rfl, by go_num, HFF⟩
    · have HAF : Hid (seaB ⟨wd, hg, D, F⟩ = true) := by
        show _ = _
        unfold seaB
        dsimp only
        rw [unhide HH, all_true (xs := F) (d := default) (p := clB) (fun r hr => unhide HFF r (by omega))]
        rfl
      have hkF : ¬ (k : Int) < F.length := by omega
      have HA := hide hA
      clear HFF hA hWq
      go_wp2
      go_ret
      exact ⟨by rw [unhide HAF]; rfl, unhide HA⟩

end Go.Proofs.Ytdpcacfgbjllhaa
