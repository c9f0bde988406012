/- The program's RunSignals and DoSignal. Written by wip/mk20h.py. -/
import Derived.Test.YtgmhijbepkobkaaHoF
import Derived.Test.YtgmhijbepkobkaaHoG
namespace Go.Proofs.Ytgmhijbepkobkaa
open Go.RowKit

theorem st_bad {h : Ho} (e : hoB h = false) : ∀ L : List SignalT, stS h L = h ∧ cdS h L = List.replicate L.length false
  | [] => ⟨rfl, rfl⟩
  | s :: L => by
    have e1 : sigH h s.1 s.2 = (h, false) := by unfold sigH; rw [e]; rfl
    have ih := st_bad e L
    constructor
    · show stS (sigH h s.1 s.2).1 L = h
      rw [e1]
      exact ih.1
    · show (sigH h s.1 s.2).2 :: cdS (sigH h s.1 s.2).1 L = _
      rw [e1]
      dsimp only
      rw [ih.2, List.length_cons, List.replicate_succ]
theorem bools_madeH (n : Nat) : (madeCells #[Value.bool false] n).toList = cds [] n := by
  apply List.ext_getElem?
  intro i
  by_cases h : i < n
  · simp [madeCells, cds, h, Nat.mod_one]
  · simp [madeCells, cds, h]
theorem own_ownBo {B : Nat} {w : World} {g n : Nat} {L : List Bool} (h : OwnV w g (L.map Value.bool)) (hB : B ≤ g) (hn : L.length = n) (hm : n ≤ 1000) : OwnBo B w (.slice (some ⟨g, 0, none⟩) n n) L := by
  subst hn
  exact ⟨_, _, rfl, Nat.le_refl _, by unfold maxLen; omega, fun _ => ⟨g, rfl, hB, h⟩⟩

set_option maxRecDepth 100000 in
set_option maxHeartbeats 16000000 in
theorem implRunSignals_any (h : Ho) (v : Value) (L : List SignalT) (w : World) (hL : RSignal w v L) :
    Calls Try.prog 23 #[h.v, v] w (SRA w h L) := by
  have HVL := hide hL
  have HOK := hide fun W => implHoistOk_any h W
  obtain ⟨ao, cap, rfl, hl, hm, -⟩ := hL
  unfold maxLen at hm
  unfold Ho.v vHoist at HOK ⊢
  go_enter Try.func23, Try.ntmps23
  go_upto_region 1 with (fail)
  obtain ⟨g0, eg0⟩ : ∃ z, z = w.heap.size := ⟨_, rfl⟩
  obtain ⟨W, eW⟩ : ∃ z, z = (w.alloc (.cells #[.int .i64 h.q, .int .i64 h.ld, .int .i64 h.he, .int .i64 h.lw, .int .i64 h.hg, .int .i64 h.lm, .int .i64 h.rs] 37)).alloc (.cells #[.int .i64 0, .int .i64 0, .int .i64 0, .int .i64 0, .int .i64 0, .int .i64 0, .int .i64 0] 37) := ⟨_, rfl⟩
  have HW : Hid (Below w.heap.size w W) := by rw [eW]; exact Below.step (Below.alloc1 _ _) (Below.alloc1 _ _)
  have HB : Hid (OwnV W g0 [.int .i64 h.q, .int .i64 h.ld, .int .i64 h.he, .int .i64 h.lw, .int .i64 h.hg, .int .i64 h.lm, .int .i64 h.rs]) := by rw [eW, eg0]; exact (ownV_alloc _ _ _).step (Below.alloc1 _ _)
  have HZ : Hid (OwnV W (g0 + 1) [.int .i64 0, .int .i64 0, .int .i64 0, .int .i64 0, .int .i64 0, .int .i64 0, .int .i64 0]) := by
    have := ownV_alloc (w.alloc (.cells #[.int .i64 h.q, .int .i64 h.ld, .int .i64 h.he, .int .i64 h.lw, .int .i64 h.hg, .int .i64 h.lm, .int .i64 h.rs] 37)) #[.int .i64 0, .int .i64 0, .int .i64 0, .int .i64 0, .int .i64 0, .int .i64 0, .int .i64 0] 37
    simp only [World.size_alloc] at this
    rw [eW, eg0]
    exact this
  rw [← eW, ← eg0]
  have hg0 : w.heap.size ≤ g0 := by omega
  clear eW eg0
  obtain ⟨g1, eg1⟩ : ∃ z, z = g0 + 1 := ⟨_, rfl⟩
  rw [← eg1] at HZ ⊢
  have hg1 : g0 < g1 := by omega
  clear eg1
  have n10 : g1 ≠ g0 := by omega
  by_cases h200 : L.length ≤ 200
  case neg =>
    have HE1 : Hid (rsH h L = h) := by show _ = _; unfold rsH; rw [if_neg h200]
    have HE2 : Hid (rsC h L = []) := by show _ = _; unfold rsC; rw [if_neg h200]
    have hw200 : (200 : Int) < (L.length : Int) := by omega
    have b0 := (unhide HB).cell (i := 0) rfl
    have b1 := (unhide HB).cell (i := 1) rfl
    have b2 := (unhide HB).cell (i := 2) rfl
    have b3 := (unhide HB).cell (i := 3) rfl
    have b4 := (unhide HB).cell (i := 4) rfl
    have b5 := (unhide HB).cell (i := 5) rfl
    have b6 := (unhide HB).cell (i := 6) rfl
    have z0 := (unhide HZ).cell (i := 0) rfl
    have z1 := (unhide HZ).cell (i := 1) rfl
    have z2 := (unhide HZ).cell (i := 2) rfl
    have z3 := (unhide HZ).cell (i := 3) rfl
    have z4 := (unhide HZ).cell (i := 4) rfl
    have z5 := (unhide HZ).cell (i := 5) rfl
    have z6 := (unhide HZ).cell (i := 6) rfl
    have zf0 := (unhide HZ).frozen 0
    have zf1 := (unhide HZ).frozen 1
    have zf2 := (unhide HZ).frozen 2
    have zf3 := (unhide HZ).frozen 3
    have zf4 := (unhide HZ).frozen 4
    have zf5 := (unhide HZ).frozen 5
    have zf6 := (unhide HZ).frozen 6
    go_wp2
    refine bodyPost_ret (v := .tuple #[vHoist h.q h.ld h.he h.lw h.hg h.lm h.rs, .slice (none) 0 0]) (by simp [results, Try.results23, go_sem, vHoist, z0, z1, z2, z3, z4, z5, z6]) rfl ⟨none, 0, 0, ?_, ?_, ?_⟩
    · rw [unhide HE1]; rfl
    · rw [unhide HE2]
      exact ⟨none, 0, rfl, Nat.le_refl _, Nat.zero_le _, fun e => absurd rfl e⟩
    · repeat (refine Below.setCell ?_ (by dsimp only; omega) _)
      exact unhide HW
  have hw200 : ¬ (200 : Int) < (L.length : Int) := by omega
  have hmk := run_make_row' (P := Try.prog) 46 4 (.bool false) 1 Try.underlying46 Try.infoB rfl .i64 .i64 L.length (by omega) (by omega)
  have A1 := Below.alloc1 W (.cells (madeCells #[.bool false] L.length) 4)
  have hT := ownV_alloc W (madeCells #[.bool false] L.length) 4
  rw [bools_madeH] at hT
  have hgTl : g1 < W.heap.size := (unhide HZ).lt
  go_upto_region 4 with (fail)
  obtain ⟨W2, eW⟩ : ∃ z, z = W.alloc (.cells (madeCells #[.bool false] L.length) 4) := ⟨_, rfl⟩
  obtain ⟨gT, egT⟩ : ∃ z, z = W.heap.size := ⟨_, rfl⟩
  rw [← eW] at A1 hT ⊢
  rw [← egT] at hT ⊢
  have HT := hide hT
  have hgT : g1 < gT := by omega
  replace HW := hide (Below.step (unhide HW) A1)
  replace HB := hide ((unhide HB).step A1)
  replace HZ := hide ((unhide HZ).step A1)
  clear A1 hT hmk eW egT hgTl
  have b0 := (unhide HB).cell (i := 0) rfl
  have b1 := (unhide HB).cell (i := 1) rfl
  have b2 := (unhide HB).cell (i := 2) rfl
  have b3 := (unhide HB).cell (i := 3) rfl
  have b4 := (unhide HB).cell (i := 4) rfl
  have b5 := (unhide HB).cell (i := 5) rfl
  have b6 := (unhide HB).cell (i := 6) rfl
  go_wp2_with fail
  refine (unhide HOK _).mono ?_
  rintro e W3 ⟨rfl, hb⟩
  replace HW := hide (Below.step (unhide HW) hb)
  replace HB := hide ((unhide HB).step hb)
  replace HZ := hide ((unhide HZ).step hb)
  replace HT := hide ((unhide HT).step hb)
  clear hb HOK b0 b1 b2 b3 b4 b5 b6
  cases hok : hoB h with
  | false =>
    have HE1 : Hid (rsH h L = h) := by show _ = _; unfold rsH; rw [if_pos h200, (st_bad hok L).1]
    have HE2 : Hid (rsC h L = List.replicate L.length false) := by show _ = _; unfold rsC; rw [if_pos h200, (st_bad hok L).2]
    have b0 := (unhide HB).cell (i := 0) rfl
    have b1 := (unhide HB).cell (i := 1) rfl
    have b2 := (unhide HB).cell (i := 2) rfl
    have b3 := (unhide HB).cell (i := 3) rfl
    have b4 := (unhide HB).cell (i := 4) rfl
    have b5 := (unhide HB).cell (i := 5) rfl
    have b6 := (unhide HB).cell (i := 6) rfl
    have z0 := (unhide HZ).cell (i := 0) rfl
    have z1 := (unhide HZ).cell (i := 1) rfl
    have z2 := (unhide HZ).cell (i := 2) rfl
    have z3 := (unhide HZ).cell (i := 3) rfl
    have z4 := (unhide HZ).cell (i := 4) rfl
    have z5 := (unhide HZ).cell (i := 5) rfl
    have z6 := (unhide HZ).cell (i := 6) rfl
    have zf0 := (unhide HZ).frozen 0
    have zf1 := (unhide HZ).frozen 1
    have zf2 := (unhide HZ).frozen 2
    have zf3 := (unhide HZ).frozen 3
    have zf4 := (unhide HZ).frozen 4
    have zf5 := (unhide HZ).frozen 5
    have zf6 := (unhide HZ).frozen 6
    go_wp2
    refine bodyPost_ret (v := .tuple #[vHoist h.q h.ld h.he h.lw h.hg h.lm h.rs, .slice (some ⟨gT, 0, none⟩) L.length L.length]) (by simp [results, Try.results23, go_sem, vHoist, z0, z1, z2, z3, z4, z5, z6]) rfl ⟨some ⟨gT, 0, none⟩, L.length, L.length, ?_, ?_, ?_⟩
    · rw [unhide HE1]; rfl
    · rw [unhide HE2]
      have hT := (unhide HT).kept ((((((((Kept.refl (fun b => b = g1) _).setCell (p := ⟨g1, 0, none⟩) rfl (.int .i64 h.q)).setCell (p := ⟨g1, 1, none⟩) rfl (.int .i64 h.ld)).setCell (p := ⟨g1, 2, none⟩) rfl (.int .i64 h.he)).setCell (p := ⟨g1, 3, none⟩) rfl (.int .i64 h.lw)).setCell (p := ⟨g1, 4, none⟩) rfl (.int .i64 h.hg)).setCell (p := ⟨g1, 5, none⟩) rfl (.int .i64 h.lm)).setCell (p := ⟨g1, 6, none⟩) rfl (.int .i64 h.rs)) (fun e => by omega)
      have e0 : cds [] L.length = (List.replicate L.length false).map Value.bool := by simp [cds]
      rw [e0] at hT
      exact own_ownBo hT (by omega) (by simp) (by omega)
    · repeat (refine Below.setCell ?_ (by dsimp only; omega) _)
      exact unhide HW
  | true =>
    have HO := hide hok
    clear hok
    have b0 := (unhide HB).cell (i := 0) rfl
    have b1 := (unhide HB).cell (i := 1) rfl
    have b2 := (unhide HB).cell (i := 2) rfl
    have b3 := (unhide HB).cell (i := 3) rfl
    have b4 := (unhide HB).cell (i := 4) rfl
    have b5 := (unhide HB).cell (i := 5) rfl
    have b6 := (unhide HB).cell (i := 6) rfl
    go_upto_region 7 with (fail)
    obtain ⟨V, eV⟩ : ∃ z, z = W3.alloc (.cells #[.int .i64 h.q, .int .i64 h.ld, .int .i64 h.he, .int .i64 h.lw, .int .i64 h.hg, .int .i64 h.lm, .int .i64 h.rs, .slice ao L.length cap, .slice (some ⟨gT, 0, none⟩) L.length L.length] 82) := ⟨_, rfl⟩
    have hb := Below.alloc1 W3 (.cells #[.int .i64 h.q, .int .i64 h.ld, .int .i64 h.he, .int .i64 h.lw, .int .i64 h.hg, .int .i64 h.lm, .int .i64 h.rs, .slice ao L.length cap, .slice (some ⟨gT, 0, none⟩) L.length L.length] 82)
    have HX := hide (ownV_alloc W3 #[.int .i64 h.q, .int .i64 h.ld, .int .i64 h.he, .int .i64 h.lw, .int .i64 h.hg, .int .i64 h.lm, .int .i64 h.rs, .slice ao L.length cap, .slice (some ⟨gT, 0, none⟩) L.length L.length] 82)
    obtain ⟨gw, egw⟩ : ∃ z, z = W3.heap.size := ⟨_, rfl⟩
    have hgw : gT < gw := by have := (unhide HT).lt; omega
    rw [← eV] at hb HX ⊢
    rw [← egw] at HX ⊢
    replace HW := hide (Below.step (unhide HW) hb)
    replace HZ := hide ((unhide HZ).step hb)
    replace HT := hide ((unhide HT).step hb)
    clear hb eV egw HB b0 b1 b2 b3 b4 b5 b6
    have HWn : Hid (Wn w V gw gT h L []) := ⟨ao, L.length, cap, _, L.length, unhide HX, unhide HVL, Nat.le_refl _, by unfold maxLen; omega, fun _ => rfl, unhide HT⟩
    have HRUN := hide (run_any w gw gT h L [] V (unhide HO) (unhide HW) (by omega) (by omega) (by omega) (unhide HWn))
    clear HX HT HWn
    go_wp2_with fail
    refine (unhide HRUN).mono ?_
    rintro e V2 ⟨rfl, hwn, hk⟩
    have HW2 := hide (kept_w0 (unhide HW) hk (by omega) (by omega))
    have HZ2 := hide ((unhide HZ).kept hk (fun e => by omega))
    obtain ⟨y, ey⟩ : ∃ z, z = stS h L := ⟨_, rfl⟩
    rw [← ey] at hwn
    have HE1 : Hid (rsH h L = y) := by show _ = _; unfold rsH; rw [if_pos h200, ey]
    have HE2 : Hid (rsC h L = cdS h L) := by show _ = _; unfold rsC; rw [if_pos h200]
    obtain ⟨a', n', c', a2, ct, hX2, hr2, -, -, -, hT2⟩ := hwn
    have hn0 := (recs_len1 hr2).1
    obtain rfl : n' = 0 := hn0.symm
    have HX2 := hide hX2
    have HT2 : Hid (OwnV V2 gT ((cdS h L).map Value.bool)) := by
      have : cds ([] ++ cdS h L) 0 = (cdS h L).map Value.bool := by simp [cds]
      rw [← this]
      exact hT2
    have hcl := cdS_len L h
    clear hX2 hr2 hT2 hk ey hn0 HW HZ HRUN
    have HW := HW2
    have HZ := HZ2
    clear HW2 HZ2
    have n1w : g1 ≠ gw := by omega
    have nw1 : gw ≠ g1 := by omega
    have b0 := (unhide HX2).cell (i := 0) rfl
    have b1 := (unhide HX2).cell (i := 1) rfl
    have b2 := (unhide HX2).cell (i := 2) rfl
    have b3 := (unhide HX2).cell (i := 3) rfl
    have b4 := (unhide HX2).cell (i := 4) rfl
    have b5 := (unhide HX2).cell (i := 5) rfl
    have b6 := (unhide HX2).cell (i := 6) rfl
    have z0 := (unhide HZ).cell (i := 0) rfl
    have z1 := (unhide HZ).cell (i := 1) rfl
    have z2 := (unhide HZ).cell (i := 2) rfl
    have z3 := (unhide HZ).cell (i := 3) rfl
    have z4 := (unhide HZ).cell (i := 4) rfl
    have z5 := (unhide HZ).cell (i := 5) rfl
    have z6 := (unhide HZ).cell (i := 6) rfl
    have zf0 := (unhide HZ).frozen 0
    have zf1 := (unhide HZ).frozen 1
    have zf2 := (unhide HZ).frozen 2
    have zf3 := (unhide HZ).frozen 3
    have zf4 := (unhide HZ).frozen 4
    have zf5 := (unhide HZ).frozen 5
    have zf6 := (unhide HZ).frozen 6
    go_wp2
    refine bodyPost_ret (v := .tuple #[vHoist y.q y.ld y.he y.lw y.hg y.lm y.rs, .slice (some ⟨gT, 0, none⟩) L.length L.length]) (by simp [results, Try.results23, go_sem, vHoist, z0, z1, z2, z3, z4, z5, z6]) rfl ⟨some ⟨gT, 0, none⟩, L.length, L.length, ?_, ?_, ?_⟩
    · rw [unhide HE1]; rfl
    · rw [unhide HE2]
      have hT := (unhide HT2).kept ((((((((Kept.refl (fun b => b = g1) _).setCell (p := ⟨g1, 0, none⟩) rfl (.int .i64 y.q)).setCell (p := ⟨g1, 1, none⟩) rfl (.int .i64 y.ld)).setCell (p := ⟨g1, 2, none⟩) rfl (.int .i64 y.he)).setCell (p := ⟨g1, 3, none⟩) rfl (.int .i64 y.lw)).setCell (p := ⟨g1, 4, none⟩) rfl (.int .i64 y.hg)).setCell (p := ⟨g1, 5, none⟩) rfl (.int .i64 y.lm)).setCell (p := ⟨g1, 6, none⟩) rfl (.int .i64 y.rs)) (fun e => by omega)
      exact own_ownBo hT (by omega) hcl (by omega)
    · repeat (refine Below.setCell ?_ (by dsimp only; omega) _)
      exact unhide HW

set_option maxRecDepth 100000 in
set_option maxHeartbeats 16000000 in
theorem implDoSignal_any (h : Ho) (k m : Int) (w : World) : Calls Try.prog 21 #[h.v, vSignal k m] w fun e w' => e = .returned (.tuple #[(sigH h k m).1.v, .bool (sigH h k m).2]) ∧ Below w.heap.size w w' := by
  have HRS := hide fun v W hv => implRunSignals_any h v [(k, m)] W hv
  have HE1 : Hid (rsH h [(k, m)] = (sigH h k m).1) := rfl
  have HE2 : Hid (rsC h [(k, m)] = [(sigH h k m).2]) := rfl
  obtain ⟨⟨y, bb⟩, ez⟩ : ∃ r, r = sigH h k m := ⟨_, rfl⟩
  rw [← ez] at HE1 HE2 ⊢
  clear ez
  unfold Ho.v vHoist at HRS ⊢
  unfold vSignal
  go_enter Try.func21, Try.ntmps21
  go_upto_region 1 with (fail)
  obtain ⟨g0, eg0⟩ : ∃ z, z = w.heap.size := ⟨_, rfl⟩
  obtain ⟨W, eW⟩ : ∃ z, z = ((w.alloc (.cells #[.int .i64 h.q, .int .i64 h.ld, .int .i64 h.he, .int .i64 h.lw, .int .i64 h.hg, .int .i64 h.lm, .int .i64 h.rs] 37)).alloc (.cells #[.int .i64 k, .int .i64 m] 44)).alloc (.cells #[.int .i64 0, .int .i64 0, .int .i64 0, .int .i64 0, .int .i64 0, .int .i64 0, .int .i64 0] 37) := ⟨_, rfl⟩
  have HB0 := hide (((bk_two w #[.int .i64 h.q, .int .i64 h.ld, .int .i64 h.he, .int .i64 h.lw, .int .i64 h.hg, .int .i64 h.lm, .int .i64 h.rs] #[.int .i64 k, .int .i64 m] 37 44).made 2 #[.int .i64 0, .int .i64 0, .int .i64 0, .int .i64 0, .int .i64 0, .int .i64 0, .int .i64 0] 37))
  rw [← eW] at HB0 ⊢
  have HW : Hid (Below w.heap.size w W) := (unhide HB0).below
  have HB : Hid (OwnV W g0 [.int .i64 h.q, .int .i64 h.ld, .int .i64 h.he, .int .i64 h.lw, .int .i64 h.hg, .int .i64 h.lm, .int .i64 h.rs]) := by rw [eg0]; exact (unhide HB0).ownV (k := 0) rfl
  have HS : Hid (OwnV W (g0 + 1) [.int .i64 k, .int .i64 m]) := by rw [eg0]; exact (unhide HB0).ownV (k := 1) rfl
  have HZ : Hid (OwnV W (g0 + 1 + 1) [.int .i64 0, .int .i64 0, .int .i64 0, .int .i64 0, .int .i64 0, .int .i64 0, .int .i64 0]) := by
    have := ownV_alloc ((w.alloc (.cells #[.int .i64 h.q, .int .i64 h.ld, .int .i64 h.he, .int .i64 h.lw, .int .i64 h.hg, .int .i64 h.lm, .int .i64 h.rs] 37)).alloc (.cells #[.int .i64 k, .int .i64 m] 44)) #[.int .i64 0, .int .i64 0, .int .i64 0, .int .i64 0, .int .i64 0, .int .i64 0, .int .i64 0] 37
    simp only [World.size_alloc] at this
    rw [eW, eg0]
    exact this
  rw [← eg0]
  have hg0 : w.heap.size ≤ g0 := by omega
  clear HB0 eW eg0
  obtain ⟨g2, eg2⟩ : ∃ z, z = g0 + 1 + 1 := ⟨_, rfl⟩
  rw [← eg2] at HZ ⊢
  have hg2 : g0 < g2 := by omega
  clear eg2
  have b0 := (unhide HB).cell (i := 0) rfl
  have b1 := (unhide HB).cell (i := 1) rfl
  have b2 := (unhide HB).cell (i := 2) rfl
  have b3 := (unhide HB).cell (i := 3) rfl
  have b4 := (unhide HB).cell (i := 4) rfl
  have b5 := (unhide HB).cell (i := 5) rfl
  have b6 := (unhide HB).cell (i := 6) rfl
  have s0 := (unhide HS).cell (i := 0) rfl
  have s1 := (unhide HS).cell (i := 1) rfl
  have A1 := Below.alloc1 W (.cells #[.int .i64 k, .int .i64 m] 44)
  have HG : Hid (RSignal (W.alloc (.cells #[.int .i64 k, .int .i64 m] 44)) (.slice (some ⟨W.heap.size, 0, none⟩) 1 1) [(k, m)]) := by
    have h := ownV_alloc W #[.int .i64 k, .int .i64 m] 44
    refine OwnV.recsIn (L := [(k, m)]) ?_ (Nat.le_refl _) (by unfold maxLen; omega)
    rw [recCells_one]
    exact h
  replace HW := hide (Below.step (unhide HW) A1)
  replace HZ := hide ((unhide HZ).step A1)
  have HRQ := hide (unhide HRS _ _ (unhide HG))
  clear A1 HB HS
  go_wp2_with fail
  refine (unhide HRQ).mono ?_
  rintro e V ⟨ta, tn, tc, rfl, ho, hb⟩
  rw [unhide HE1]
  rw [unhide HE2] at ho
  obtain ⟨ta', tc', et, h1, h2, h3⟩ := ho
  simp only [Value.slice.injEq] at et
  obtain ⟨rfl, rfl, rfl⟩ := et
  obtain ⟨gt, rfl, hgt, hto⟩ := h3 (by simp)
  have hgt2 : g2 < gt := Nat.lt_of_lt_of_le (unhide HZ).lt hgt
  have HT : Hid (OwnV V gt [.bool bb]) := hto
  replace HW := hide (Below.step (unhide HW) hb)
  replace HZ := hide ((unhide HZ).step hb)
  clear hb hto h1 h2 h3 HRQ HG HRS hgt HE1 HE2 s0 s1 b0 b1 b2 b3 b4 b5 b6
  unfold Ho.v vHoist
  go_upto_region 2 with (fail)
  obtain ⟨V2, eV⟩ : ∃ z, z = V.alloc (.cells #[.int .i64 y.q, .int .i64 y.ld, .int .i64 y.he, .int .i64 y.lw, .int .i64 y.hg, .int .i64 y.lm, .int .i64 y.rs] 37) := ⟨_, rfl⟩
  have hb := Below.alloc1 V (.cells #[.int .i64 y.q, .int .i64 y.ld, .int .i64 y.he, .int .i64 y.lw, .int .i64 y.hg, .int .i64 y.lm, .int .i64 y.rs] 37)
  have HX := hide (ownV_alloc V #[.int .i64 y.q, .int .i64 y.ld, .int .i64 y.he, .int .i64 y.lw, .int .i64 y.hg, .int .i64 y.lm, .int .i64 y.rs] 37)
  obtain ⟨gx, egx⟩ : ∃ z, z = V.heap.size := ⟨_, rfl⟩
  have hgx : g2 < gx := by have := (unhide HZ).lt; omega
  rw [← eV] at hb HX ⊢
  rw [← egx] at HX ⊢
  replace HW := hide (Below.step (unhide HW) hb)
  replace HZ := hide ((unhide HZ).step hb)
  replace HT := hide ((unhide HT).step hb)
  clear hb eV egx
  obtain ⟨wd, ewd⟩ : ∃ z, z = V2.drew := ⟨_, rfl⟩
  have hb : Below V2.heap.size V2 wd := by rw [ewd]; exact (Below.refl _ _).drew
  replace HW := hide (Below.step (unhide HW) hb)
  replace HZ := hide ((unhide HZ).step hb)
  replace HT := hide ((unhide HT).step hb)
  replace HX := hide (OwnV.step (unhide HX) hb)
  clear hb
  refine wp_region_held_drew (S := fun w' => w'.cell? ⟨gx, 0, none⟩ = some (.int .i64 y.q) ∧ w'.cell? ⟨gx, 1, none⟩ = some (.int .i64 y.ld) ∧ w'.cell? ⟨gx, 2, none⟩ = some (.int .i64 y.he) ∧ w'.cell? ⟨gx, 3, none⟩ = some (.int .i64 y.lw) ∧ w'.cell? ⟨gx, 4, none⟩ = some (.int .i64 y.hg) ∧ w'.cell? ⟨gx, 5, none⟩ = some (.int .i64 y.lm) ∧ w'.cell? ⟨gx, 6, none⟩ = some (.int .i64 y.rs) ∧ w'.cell? ⟨gt, 0, none⟩ = some (.bool bb)) (by kernel_rfl) ⟨by rw [← ewd]; exact (unhide HX).cell (i := 0) rfl, by rw [← ewd]; exact (unhide HX).cell (i := 1) rfl, by rw [← ewd]; exact (unhide HX).cell (i := 2) rfl, by rw [← ewd]; exact (unhide HX).cell (i := 3) rfl, by rw [← ewd]; exact (unhide HX).cell (i := 4) rfl, by rw [← ewd]; exact (unhide HX).cell (i := 5) rfl, by rw [← ewd]; exact (unhide HX).cell (i := 6) rfl, by rw [← ewd]; exact (unhide HT).cell (i := 0) rfl⟩ (fun hHeld => ?_)
  rw [← ewd] at hHeld ⊢
  clear ewd
  refine wpAnyH_take (i := 0) (v := ?_) rfl (by kernel_rfl) (by kernel_rfl) (by kernel_rfl) (fun _ _ _ h => h) (Or.inl ⟨by rfl, ?_⟩) (by assumption) ?_
  rotate_left
  · intro wy hSw
    obtain ⟨hS0, hS1, hS2, hS3, hS4, hS5, hS6, hS7⟩ := hSw
    go_simp
    try with_reducible rfl
  try simp only [Act.put, List.getElem_toArray, List.getElem_cons_zero, List.setIfInBounds_toArray, List.set_cons_zero, List.set_cons_succ]
  refine wpAnyH_take (i := 1) (v := ?_) rfl (by kernel_rfl) (by kernel_rfl) (by kernel_rfl) (fun _ _ _ h => h) (Or.inl ⟨by rfl, ?_⟩) (by assumption) ?_
  rotate_left
  · intro wy hSw
    obtain ⟨hS0, hS1, hS2, hS3, hS4, hS5, hS6, hS7⟩ := hSw
    go_simp
    try with_reducible rfl
  try simp only [Act.put, List.getElem_toArray, List.getElem_cons_succ, List.getElem_cons_zero, List.setIfInBounds_toArray, List.set_cons_zero, List.set_cons_succ]
  refine wpAnyH_take (i := 2) (v := ?_) rfl (by kernel_rfl) (by kernel_rfl) (by kernel_rfl) (fun _ _ _ h => h) (Or.inl ⟨by rfl, ?_⟩) (by assumption) ?_
  rotate_left
  · intro wy hSw
    obtain ⟨hS0, hS1, hS2, hS3, hS4, hS5, hS6, hS7⟩ := hSw
    go_simp
    try with_reducible rfl
  try simp only [Act.put, List.getElem_toArray, List.getElem_cons_succ, List.getElem_cons_zero, List.setIfInBounds_toArray, List.set_cons_zero, List.set_cons_succ]
  refine wpAnyH_take (i := 3) (v := ?_) rfl (by kernel_rfl) (by kernel_rfl) (by kernel_rfl) (fun _ _ _ h => h) (Or.inl ⟨by rfl, ?_⟩) (by assumption) ?_
  rotate_left
  · intro wy hSw
    obtain ⟨hS0, hS1, hS2, hS3, hS4, hS5, hS6, hS7⟩ := hSw
    go_simp
    try with_reducible rfl
  try simp only [Act.put, List.getElem_toArray, List.getElem_cons_succ, List.getElem_cons_zero, List.setIfInBounds_toArray, List.set_cons_zero, List.set_cons_succ]
  have z0 := (unhide HZ).cell (i := 0) rfl
  have z1 := (unhide HZ).cell (i := 1) rfl
  have z2 := (unhide HZ).cell (i := 2) rfl
  have z3 := (unhide HZ).cell (i := 3) rfl
  have z4 := (unhide HZ).cell (i := 4) rfl
  have z5 := (unhide HZ).cell (i := 5) rfl
  have z6 := (unhide HZ).cell (i := 6) rfl
  have zf0 := (unhide HZ).frozen 0
  have zf1 := (unhide HZ).frozen 1
  have zf2 := (unhide HZ).frozen 2
  have zf3 := (unhide HZ).frozen 3
  have zf4 := (unhide HZ).frozen 4
  have zf5 := (unhide HZ).frozen 5
  have zf6 := (unhide HZ).frozen 6
  have HK : Hid (Kept (fun b => b = g2) wd _) := hide ((((((((Kept.refl (fun b => b = g2) _).setCell (p := ⟨g2, 0, none⟩) rfl (.int .i64 y.q)).setCell (p := ⟨g2, 1, none⟩) rfl (.int .i64 y.ld)).setCell (p := ⟨g2, 2, none⟩) rfl (.int .i64 y.he)).setCell (p := ⟨g2, 3, none⟩) rfl (.int .i64 y.lw)).setCell (p := ⟨g2, 4, none⟩) rfl (.int .i64 y.hg)).setCell (p := ⟨g2, 5, none⟩) rfl (.int .i64 y.lm)).setCell (p := ⟨g2, 6, none⟩) rfl (.int .i64 y.rs))
  have HZ7 := hide ((((((((unhide HZ).set 0 (.int .i64 y.q) (by simp)).set 1 (.int .i64 y.ld) (by simp)).set 2 (.int .i64 y.he) (by simp)).set 3 (.int .i64 y.lw) (by simp)).set 4 (.int .i64 y.hg) (by simp)).set 5 (.int .i64 y.lm) (by simp)).set 6 (.int .i64 y.rs) (by simp))
  have HX7 := hide ((unhide HX).kept (unhide HK) (fun e => by omega))
  have HT7 := hide ((unhide HT).kept (unhide HK) (fun e => by omega))
  have hWB := unhide HW
  have HW7 := hide (hWB.trans ((unhide HK).below hWB.size (fun b e => by omega)))
  clear hWB
  refine wpAnyH_ready (rs := [4]) (by kernel_rfl) (by simp) ?_
  refine AllReadyH.cons rfl (fun K hK => ?_) AllReadyH.nil
  go_simp
  clear z0 zf0 z1 zf1 z2 zf2 z3 zf3 z4 zf4 z5 zf5 z6 zf6
  refine hK.out _ _ ⟨(unhide HX7).cell (i := 0) rfl, (unhide HX7).cell (i := 1) rfl, (unhide HX7).cell (i := 2) rfl, (unhide HX7).cell (i := 3) rfl, (unhide HX7).cell (i := 4) rfl, (unhide HX7).cell (i := 5) rfl, (unhide HX7).cell (i := 6) rfl, (unhide HT7).cell (i := 0) rfl⟩ (fun hHeld => ?_)
  clear hK K
  try simp only [Act.put, List.setIfInBounds_toArray, List.set_cons_zero, List.set_cons_succ]
  refine wpAnyH_take (i := 5) (v := ?_) rfl (by kernel_rfl) (by kernel_rfl) (by kernel_rfl) (fun _ _ _ h => h) (Or.inl ⟨by rfl, ?_⟩) (by assumption) ?_
  rotate_left
  · intro wy hSw
    obtain ⟨hS0, hS1, hS2, hS3, hS4, hS5, hS6, hS7⟩ := hSw
    go_simp
    try with_reducible rfl
  try simp only [Act.put, List.getElem_toArray, List.getElem_cons_succ, List.getElem_cons_zero, List.setIfInBounds_toArray, List.set_cons_zero, List.set_cons_succ]
  refine wpAnyH_done (by kernel_rfl) ?_ _
  refine meetW (fun W => OwnV W g2 [.int .i64 y.q, .int .i64 y.ld, .int .i64 y.he, .int .i64 y.lw, .int .i64 y.hg, .int .i64 y.lm, .int .i64 y.rs] ∧ Below w.heap.size w W) ⟨unhide HZ7, unhide HW7⟩ ?_
  rintro V7 ⟨hZ, hW⟩
  have z0 := hZ.cell (i := 0) rfl
  have z1 := hZ.cell (i := 1) rfl
  have z2 := hZ.cell (i := 2) rfl
  have z3 := hZ.cell (i := 3) rfl
  have z4 := hZ.cell (i := 4) rfl
  have z5 := hZ.cell (i := 5) rfl
  have z6 := hZ.cell (i := 6) rfl
  have HW := hide hW
  clear hW hZ HZ7 HX7 HT7 HW7 HK
  go_wp2
  refine bodyPost_ret (v := .tuple #[vHoist y.q y.ld y.he y.lw y.hg y.lm y.rs, .bool bb]) (by simp [results, Try.results21, go_sem, vHoist, z0, z1, z2, z3, z4, z5, z6]) rfl ⟨rfl, unhide HW⟩

end Go.Proofs.Ytgmhijbepkobkaa
