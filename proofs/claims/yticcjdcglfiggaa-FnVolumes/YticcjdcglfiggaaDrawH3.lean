/- The specification's DrawRightHull: whatever the bytes, a right hull and a water line of it. -/
import Derived.Test.YticcjdcglfiggaaDrawH2
import Derived.Deep.RegionHeld3
namespace Go.Proofs.Yticcjdcglfiggaa
open Go.RowKit

set_option maxHeartbeats 1600000 in
theorem drawRightHull_any (v : Value) (nb : Nat) (w : World) (h : BytesIn w.heap.size w v nb) (hn : nb ≤ 1048576) :
    Calls Try.prog 10 #[v] w fun e w' => ∃ step rise R ao n cap x, e = .returned (.tuple #[hullV step rise (.slice ao n cap), .int .i64 x]) ∧ RowsIn w' (.slice ao n cap) R ∧ drawnHull step rise R ∧ 0 ≤ x ∧ x < (R.getD 0 []).length ∧ Below w.heap.size w w' := by
  have A1 := Below.alloc1 w (.cells #[.int .i64 0, .int .i64 0, .slice none 0 0] 26)
  have O1 : OwnV (w.alloc (.cells #[.int .i64 0, .int .i64 0, .slice none 0 0] 26)) w.heap.size [.int .i64 0, .int .i64 0, .slice none 0 0] := ⟨_, _, Go.Deep.blk_alloc_new _ _, fun i _ => by simp⟩
  have hB1 : BytesIn (w.alloc (.cells #[.int .i64 0, .int .i64 0, .slice none 0 0] 26)).heap.size (w.alloc (.cells #[.int .i64 0, .int .i64 0, .slice none 0 0] 26)) v nb := by
    obtain ⟨ao, cap, e, h1, h2, h3⟩ := h.below A1 (Nat.le_refl _)
    exact ⟨ao, cap, e, h1, h2, fun i hi => by obtain ⟨b, o, x, e1, hl, r⟩ := h3 i hi; exact ⟨b, o, x, e1, by simp; omega, r⟩⟩
  have H1 := hide (l1New_any v nb _ hB1 hn)
  have HA1 := hide A1
  have HO1 := hide O1
  obtain ⟨vao, vcap, rfl, _, _, _⟩ := h
  clear A1 O1 hB1
  go_enter Try.func10, Try.ntmps10
  go_wp2_with fail
  refine (unhide H1).mono ?_
  rintro e w2 ⟨rfl, hc, hb, hsz⟩
  simp only [World.size_alloc] at hc hsz
  have HC2 := hide hc
  have HW2 := hide (Below.step (unhide HA1) hb)
  have HO2 := hide ((unhide HO1).below hb (by simp))
  have hz2 : w2.heap.size = w.heap.size + 1 + 1 := hsz
  have HZ2 := hide hz2
  clear hc hb hsz hz2 H1 HA1 HO1
  have H3 := hide (l1DrawHull_any _ nb _ w2 (unhide HC2) hn)
  go_wp2_with fail
  refine (unhide H3).mono ?_
  rintro e w3 ⟨step, rise, R, ao, n, cap, rfl, hG, hok, hc, hk⟩
  have hr := hullOk_right hok.1
  have hl1 := hr.len1
  have hl2 := hr.len2
  obtain ⟨b, cap', ev, hb, hcp1, hcp2⟩ := hG.form (by omega)
  simp only [Value.slice.injEq] at ev
  obtain ⟨rfl, rfl, rfl⟩ := ev
  obtain ⟨_, _, ev, _, _, hrows⟩ := hG.rowsIn
  simp only [Value.slice.injEq, true_and] at ev
  obtain ⟨rfl, rfl⟩ := ev
  obtain ⟨b', o', ar, m, cr, eb, hcell, _, EM, hm0⟩ := rowAt hrows (show 0 < R.length by omega)
  simp only [Option.some.injEq, Addr.mk.injEq, and_true] at eb
  obtain ⟨rfl, rfl⟩ := eb
  simp only [Nat.add_zero] at hcell
  have hm2 : 2 ≤ m := by rw [← unhide EM]; exact hr.wat1
  have hm3 : m ≤ 10 := by rw [← unhide EM]; exact hr.wat2
  obtain ⟨W, eW⟩ : ∃ W, W = w3.alloc (.cells #[.int .i64 step, .int .i64 rise, .slice (some ⟨b, 0, none⟩) R.length cap] 26) := ⟨_, rfl⟩
  have A4 : Below w3.heap.size w3 W := by rw [eW]; exact Below.alloc1 _ _
  have X4 : Box3 W w3.heap.size (.int .i64 step) (.int .i64 rise) (.slice (some ⟨b, 0, none⟩) R.length cap) := by rw [eW]; exact box3_alloc _ _ _ _ _
  have hz3 := hk.size
  rw [unhide HZ2] at hz3 hb hG
  have O4 : OwnV W w.heap.size [.int .i64 0, .int .i64 0, .slice none 0 0] := ((unhide HO2).kept hk (by omega)).below A4 (by omega)
  have W4 : Below w.heap.size w W := ((unhide HW2).trans (hk.below (by rw [unhide HZ2]; omega) (fun k hk => by omega))).trans (A4.mono (by omega))
  have c3 : W.cell? ⟨b, 0, none⟩ = some (.slice ar m cr) := (A4.cell (lt_of_cell hcell)).trans hcell
  have HG := hide (hG.below A4)
  have HX := hide X4
  have HO := hide O4
  have HW := hide W4
  have hWd : Below W.heap.size W W.drew := (Below.refl _ _).drew
  have HT := hide (l1Below_any (w.heap.size + 1) nb _ (m : Int) W.drew ((hc.below A4).below hWd) hn (by omega) (by omega))
  obtain ⟨c0, c1, c2⟩ := X4
  have s0 := O4.cell (i := 0) rfl
  have s1 := O4.cell (i := 1) rfl
  have s2 := O4.cell (i := 2) rfl
  have f0 := O4.frozen 0
  have f1 := O4.frozen 1
  have f2 := O4.frozen 2
  have ne1 : ¬ w.heap.size = w3.heap.size := by omega
  have ne2 : ¬ w.heap.size = b := by omega
  have hix : 0 < R.length := by omega
  have HOK := hide hok
  have HR0 := hide c3
  have hbW : b < W.heap.size := lt_of_cell c3
  clear hG hok hc hk hr hrows hcell A4 O4 W4 hWd
  go_wp2
  have EW := hide eW
  rw [← eW]
  clear eW
  go_region_held3 (fun w' => w'.cell? ⟨w3.heap.size, 0, none⟩ = some (.int .i64 step) ∧ w'.cell? ⟨w3.heap.size, 1, none⟩ = some (.int .i64 rise) ∧ w'.cell? ⟨w3.heap.size, 2, none⟩ = some (.slice (some ⟨b, 0, none⟩) R.length cap) ∧ w'.cell? ⟨b, 0, none⟩ = some (.slice ar m cr)) (go_keep) (first | (go_at_call 50; refine (unhide HT).mono ?_; rintro e w5 ⟨x, rfl, hx0, hx1, hc5, hk5⟩; have hK5 : Kept (fun b => b = w.heap.size + 1) W w5 := ((kept_of_below ((Below.refl _ W).drew)).trans hk5); have HK5 := hide hK5; obtain ⟨e0, e1, e2⟩ := (unhide HX).kept hK5 (by omega); have e3 : w5.cell? ⟨b, 0, none⟩ = some (.slice ar m cr) := ((World.cell?_of_block (w := W) (a := ⟨b, 0, none⟩) (hK5.block b hbW (by omega))).trans (unhide HR0)); have hO5 := (unhide HO).kept hK5 (by omega); have r0 := hO5.cell (i := 0) rfl; have r1 := hO5.cell (i := 1) rfl; have r2 := hO5.cell (i := 2) rfl; have p0 := hO5.frozen 0; have p1 := hO5.frozen 1; have p2 := hO5.frozen 2; clear hc5 hk5 hK5 hO5))
  go_wp2
  refine bodyPost_ret (v := .tuple #[.agg #[.int .i64 step, .int .i64 rise, .slice (some ⟨b, 0, none⟩) R.length cap], .int .i64 x]) (by simp [results, Try.results10, go_sem, r0, r1, r2]) rfl ⟨step, rise, R, _, _, _, x, rfl, ?_, unhide HOK, hx0, ?_, ?_⟩
  · exact (((unhide HG).kept (unhide HK5) (fun g hg _ e => by omega)).kept (DrawSt.out _ _ _ _ _) (fun g hg _ e => by omega)).rowsIn
  · rw [unhide EM]; exact hx1
  · exact ((unhide HW).trans ((unhide HK5).below (by omega) (fun k e => by omega))).trans ((DrawSt.out _ _ _ _ _).below (by have := (unhide HK5).size; omega) (fun k e => by omega))

end Go.Proofs.Yticcjdcglfiggaa
