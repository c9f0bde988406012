/- The contract of the program's ChartOk. -/
import Derived.Test.YtoonbidopdflkaaImB
namespace Go.Proofs.Ytoonbidopdflkaa
open Go.RowKit

set_option maxRecDepth 10000 in
set_option maxHeartbeats 8000000 in
theorem implChartOk_any (c : Ch) (dao : Option Addr) (dn dc : Nat) (fao : Option Addr) (fn fc : Nat) (w : World) (hD : IntsIn w (.slice dao dn dc) c.D) (hF : RFeature w (.slice fao fn fc) c.F) :
    Calls Try.prog 17 #[vChart c.wd c.hg (.slice dao dn dc) (.slice fao fn fc) c.ed] w fun e w' => e = .returned (.bool (chartB c)) ∧ Below w.heap.size w w' := by
  have A := Below.alloc1 w (.cells #[.int .i64 c.wd, .int .i64 c.hg, .slice dao dn dc, .slice fao fn fc, .int .i64 c.ed] 27)
  have O := ownV_alloc w #[.int .i64 c.wd, .int .i64 c.hg, .slice dao dn dc, .slice fao fn fc, .int .i64 c.ed] 27
  have HW := hide A
  have HO := hide O
  have HD := hide hD
  have HF := hide hF
  obtain ⟨r, er⟩ : ∃ r, r = chartB c := ⟨_, rfl⟩
  rw [← er]
  have ER : Hid (r = (headB c && c.D.all (fun d => inB d (-1000) 10000) && (List.range c.F.length).all (featsB c))) := er
  clear A O hD hF er
  cases h1 : inB c.wd 1 12
  · have e1 : r = false := by rw [unhide ER]; unfold headB; rw [h1]; rfl
    subst e1
    unfold vChart
    go_enter Try.func17, Try.ntmps17
    go_wp2_with (go_at_call 57; refine (within_any _ _ _ _).mono ?_; rintro e w' ⟨rfl, h9⟩; have h8 := h9.symm; subst h8; clear h9)
    go_ret
    exact ⟨rfl, unhide HW⟩
  cases h2 : inB c.hg 1 12
  · have e1 : r = false := by rw [unhide ER]; unfold headB; rw [h1, h2]; rfl
    subst e1
    unfold vChart
    go_enter Try.func17, Try.ntmps17
    go_wp2_with (go_at_call 57; refine (within_any _ _ _ _).mono ?_; rintro e w' ⟨rfl, h9⟩; have h8 := h9.symm; subst h8; clear h9)
    go_ret
    exact ⟨rfl, unhide HW⟩
  cases h5 : inB c.ed 0 1000000
  · have e1 : r = false := by rw [unhide ER]; unfold headB; rw [h5]; simp
    subst e1
    unfold vChart
    go_enter Try.func17, Try.ntmps17
    go_wp2_with (go_at_call 57; refine (within_any _ _ _ _).mono ?_; rintro e w' ⟨rfl, h9⟩; have h8 := h9.symm; subst h8; clear h9)
    go_ret
    exact ⟨rfl, unhide HW⟩
  have hwd : 1 ≤ c.wd ∧ c.wd ≤ 12 := by simpa [inB] using h1
  have hhg : 1 ≤ c.hg ∧ c.hg ≤ 12 := by simpa [inB] using h2
  obtain ⟨hw0, hw1⟩ := hwd
  obtain ⟨hh0, hh1⟩ := hhg
  have ER1 : Hid (r = ((decide ((c.D.length : Int) = c.wd * c.hg) && c.D.all (fun d => inB d (-1000) 10000)) && (decide (c.F.length ≤ 30) && (List.range c.F.length).all (featsB c)))) := by
    show _ = _
    rw [unhide ER]
    unfold headB
    rw [h1, h2, h5]
    cases decide ((c.D.length : Int) = c.wd * c.hg) <;> cases decide (c.F.length ≤ 30) <;> simp
  have HQ1 := hide fun V (hV : Below w.heap.size w V) => depthsOk_any c dao dn dc (.slice fao fn fc) V ((unhide HD).below hV) hw0 hw1 hh0 hh1
  have HQ2 := hide fun V (hV : Below w.heap.size w V) => featuresOk_any c (.slice dao dn dc) fao fn fc V ((unhide HF).below hV) hw0 hw1 hh0 hh1
  obtain ⟨x, ex⟩ : ∃ x, x = (decide ((c.D.length : Int) = c.wd * c.hg) && c.D.all (fun d => inB d (-1000) 10000)) := ⟨_, rfl⟩
  obtain ⟨y, ey⟩ : ∃ y, y = (decide (c.F.length ≤ 30) && (List.range c.F.length).all (featsB c)) := ⟨_, rfl⟩
  simp only [← ex, ← ey] at HQ1 HQ2 ER1
  clear ex ey ER hw0 hw1 hh0 hh1 HD HF
  unfold vChart at HQ1 HQ2 ⊢
  go_enter Try.func17, Try.ntmps17
  go_wp2_with (go_at_call 57; refine (within_any _ _ _ _).mono ?_; rintro e w' ⟨rfl, h9⟩; have h8 := h9.symm; subst h8; clear h9)
  refine (unhide HQ1 _ (unhide HW)).mono ?_
  rintro e w1 ⟨rfl, hb⟩
  replace HW := hide (Below.step (unhide HW) hb)
  replace HO := hide (OwnV.step (unhide HO) hb)
  have b0 := (unhide HO).cell (i := 0) rfl
  have b1 := (unhide HO).cell (i := 1) rfl
  have b2 := (unhide HO).cell (i := 2) rfl
  have b3 := (unhide HO).cell (i := 3) rfl
  have b4 := (unhide HO).cell (i := 4) rfl
  clear hb h1 h2 h5
  cases x
  · have e1 : r = false := by rw [unhide ER1]; rfl
    subst e1
    go_wp2
    go_ret
    exact ⟨rfl, unhide HW⟩
  go_wp2_with fail
  refine (unhide HQ2 _ (unhide HW)).mono ?_
  rintro e w2 ⟨rfl, hb⟩
  replace HW := hide (Below.step (unhide HW) hb)
  have e1 : r = y := by rw [unhide ER1]; rfl
  subst e1
  clear hb b0 b1 b2 b3 b4 ER1
  go_wp2
  go_ret
  exact ⟨rfl, unhide HW⟩

end Go.Proofs.Ytoonbidopdflkaa
