/- The ground's methods: own, isEmpty, isFull, lift, put. Written by wip/mkybf.py. -/
import Derived.Test.YtdiifkeebgdfkaaYbD
import Derived.Test.YtdiifkeebgdfkaaCpK
namespace Go.Proofs.Ytdiifkeebgdfkaa
open Go.RowKit

def emB (P : List (List Int)) (s : Nat) : Bool := decide ((P.getD s []).length = 0)
def fuB (H : Int) (P : List (List Int)) (s : Nat) : Bool := decide (H ≤ ((P.getD s []).length : Int))

theorem Gnd.recs {w : World} {g cap : Nat} {Z : List (Option Addr × Nat)} {P : List (List Int)} (h : Gnd w g Z P) (hc1 : P.length ≤ cap) (hc2 : cap ≤ maxLen) : RecsIn 2 ePl w (.slice (some ⟨g, 0, none⟩) P.length cap) Z :=
  ⟨some ⟨g, 0, none⟩, cap, by rw [h.len], by rw [h.len]; exact hc1, hc2, fun i hi => ⟨g, 0, rfl, fun j hj => by rw [Nat.zero_add]; exact h.top.cell (recCells_get hi hj)⟩⟩

set_option maxHeartbeats 1600000 in
theorem withoutI_any (g : Nat) (q : Option Addr) (n : Nat) (x : Int) (w : World) (hl : OwnV w g [.int .i64 x, .pointer q]) (hn : n ≤ 1048576) :
    Calls Try.prog 108 #[plV (some ⟨g, 0, none⟩) (n + 1)] w fun e w' => e = .returned (plV q n) ∧ Below w.heap.size w w' := by
  unfold plV
  have hlt := hl.lt
  have hwr : IntKind.i64.wrap (n : Int) = n := by rw [IntKind.wrap_i64]; omega
  have HL := hide hl
  clear hl
  go_enter Try.func108, Try.ntmps108
  go_upto_region 1 with (fail)
  obtain ⟨g0, eg0⟩ : ∃ z, z = w.heap.size := ⟨_, rfl⟩
  obtain ⟨W, eW⟩ : ∃ z, z = (w.alloc (.cells #[.pointer (some ⟨g, 0, none⟩), .int .i64 ((n : Int) + 1)] 115)).alloc (.cells #[.pointer none, .int .i64 0] 115) := ⟨_, rfl⟩
  have hb : Below w.heap.size w W := by rw [eW]; exact Below.step (Below.alloc1 _ _) (Below.alloc1 _ _)
  have HB : Hid (OwnV W g0 [.pointer (some ⟨g, 0, none⟩), .int .i64 ((n : Int) + 1)]) := by rw [eW, eg0]; exact (ownV_alloc _ _ _).step (Below.alloc1 _ _)
  have HA : Hid (OwnV W (g0 + 1) [.pointer none, .int .i64 0]) := by rw [eW, eg0]; exact own_new _ _ _ _ (by simp)
  rw [← eW, ← eg0]
  have hg0 : w.heap.size ≤ g0 := by omega
  clear eW eg0
  have HW := hide hb
  replace HL := hide ((unhide HL).step hb)
  clear hb
  obtain ⟨wd, ewd⟩ : ∃ z, z = W.drew := ⟨_, rfl⟩
  have hb : Below W.heap.size W wd := by rw [ewd]; exact (Below.refl _ _).drew
  replace HL := hide ((unhide HL).step hb)
  replace HB := hide ((unhide HB).step hb)
  replace HA := hide ((unhide HA).step hb)
  replace HW := hide (Below.step (unhide HW) hb)
  clear hb
  refine wp_region_held_drew (S := fun w' => w'.cell? ⟨g0, 0, none⟩ = some (.pointer (some ⟨g, 0, none⟩)) ∧ w'.cell? ⟨g0, 1, none⟩ = some (.int .i64 ((n : Int) + 1)) ∧ w'.cell? ⟨g, 1, none⟩ = some (.pointer q)) (by kernel_rfl) ⟨by rw [← ewd]; exact (unhide HB).cell (i := 0) rfl, by rw [← ewd]; exact (unhide HB).cell (i := 1) rfl, by rw [← ewd]; exact (unhide HL).cell (i := 1) rfl⟩ (fun hHeld => ?_)
  rw [← ewd] at hHeld ⊢
  clear ewd
  refine wpAnyH_take (i := 0) (v := ?_) rfl (by kernel_rfl) (by kernel_rfl) (by kernel_rfl) (fun _ _ _ h => h) (Or.inl ⟨by rfl, ?_⟩) (by assumption) ?_
  rotate_left
  · intro wy hSw
    obtain ⟨hS0, hS1, hS2⟩ := hSw
    go_simp
    try with_reducible rfl
  try simp only [Act.put, List.getElem_toArray, List.getElem_cons_zero, List.setIfInBounds_toArray, List.set_cons_zero, List.set_cons_succ]
  refine wpAnyH_take (i := 1) (v := ?_) rfl (by kernel_rfl) (by kernel_rfl) (by kernel_rfl) (fun _ _ _ h => h) (Or.inl ⟨by rfl, ?_⟩) (by assumption) ?_
  rotate_left
  · intro wy hSw
    obtain ⟨hS0, hS1, hS2⟩ := hSw
    go_simp
    try with_reducible rfl
  try simp only [Act.put, List.getElem_toArray, List.getElem_cons_succ, List.getElem_cons_zero, List.setIfInBounds_toArray, List.set_cons_zero, List.set_cons_succ]
  refine wpAnyH_take (i := 2) (v := ?_) rfl (by kernel_rfl) (by kernel_rfl) (by kernel_rfl) (fun _ _ _ h => h) (Or.inl ⟨by rfl, ?_⟩) (by assumption) ?_
  rotate_left
  · intro wy hSw
    obtain ⟨hS0, hS1, hS2⟩ := hSw
    go_simp
    try with_reducible rfl
  try simp only [Act.put, List.getElem_toArray, List.getElem_cons_succ, List.getElem_cons_zero, List.setIfInBounds_toArray, List.set_cons_zero, List.set_cons_succ]
  refine wpAnyH_take (i := 3) (v := ?_) rfl (by kernel_rfl) (by kernel_rfl) (by kernel_rfl) (fun _ _ _ h => h) (Or.inl ⟨by rfl, ?_⟩) (by assumption) ?_
  rotate_left
  · intro wy hSw
    obtain ⟨hS0, hS1, hS2⟩ := hSw
    go_simp
    try with_reducible rfl
  try simp only [Act.put, List.getElem_toArray, List.getElem_cons_succ, List.getElem_cons_zero, List.setIfInBounds_toArray, List.set_cons_zero, List.set_cons_succ]
  refine wpAnyH_take (i := 4) (v := ?_) rfl (by kernel_rfl) (by kernel_rfl) (by kernel_rfl) (fun _ _ _ h => h) (Or.inl ⟨by rfl, ?_⟩) (by assumption) ?_
  rotate_left
  · intro wy hSw
    obtain ⟨hS0, hS1, hS2⟩ := hSw
    go_simp
    try with_reducible rfl
  try simp only [Act.put, List.getElem_toArray, List.getElem_cons_succ, List.getElem_cons_zero, List.setIfInBounds_toArray, List.set_cons_zero, List.set_cons_succ]
  refine wpAnyH_take (i := 5) (v := ?_) rfl (by kernel_rfl) (by kernel_rfl) (by kernel_rfl) (fun _ _ _ h => h) (Or.inl ⟨by rfl, ?_⟩) (by assumption) ?_
  rotate_left
  · intro wy hSw
    obtain ⟨hS0, hS1, hS2⟩ := hSw
    go_simp
    try with_reducible rfl
  try simp only [Act.put, List.getElem_toArray, List.getElem_cons_succ, List.getElem_cons_zero, List.setIfInBounds_toArray, List.set_cons_zero, List.set_cons_succ]
  refine wpAnyH_take (i := 6) (v := ?_) rfl (by kernel_rfl) (by kernel_rfl) (by kernel_rfl) (fun _ _ _ h => h) (Or.inl ⟨by rfl, ?_⟩) (by assumption) ?_
  rotate_left
  · intro wy hSw
    obtain ⟨hS0, hS1, hS2⟩ := hSw
    go_simp
    try with_reducible rfl
  try simp only [Act.put, List.getElem_toArray, List.getElem_cons_succ, List.getElem_cons_zero, List.setIfInBounds_toArray, List.set_cons_zero, List.set_cons_succ]
  refine wpAnyH_take (i := 7) (v := ?_) rfl (by kernel_rfl) (by kernel_rfl) (by kernel_rfl) (fun _ _ _ h => h) (Or.inl ⟨by rfl, ?_⟩) (by assumption) ?_
  rotate_left
  · intro wy hSw
    obtain ⟨hS0, hS1, hS2⟩ := hSw
    go_simp
    try with_reducible rfl
  try simp only [Act.put, List.getElem_toArray, List.getElem_cons_succ, List.getElem_cons_zero, List.setIfInBounds_toArray, List.set_cons_zero, List.set_cons_succ]
  refine wpAnyH_take (i := 8) (v := ?_) rfl (by kernel_rfl) (by kernel_rfl) (by kernel_rfl) (fun _ _ _ h => h) (Or.inl ⟨by rfl, ?_⟩) (by assumption) ?_
  rotate_left
  · intro wy hSw
    obtain ⟨hS0, hS1, hS2⟩ := hSw
    go_simp
    try with_reducible rfl
  try simp only [Act.put, List.getElem_toArray, List.getElem_cons_succ, List.getElem_cons_zero, List.setIfInBounds_toArray, List.set_cons_zero, List.set_cons_succ]
  refine wpAnyH_ready (rs := [9]) (by kernel_rfl) (by simp) ?_
  refine AllReadyH.cons rfl (fun K hK => ?_) AllReadyH.nil
  have rf0 := (unhide HA).frozen 0
  have rf1 := (unhide HA).frozen 1
  have r0 := (unhide HA).cell (i := 0) rfl
  have r1 := (unhide HA).cell (i := 1) rfl
  have HA2 := hide (((unhide HA).set 0 (.pointer q) (by simp)).set 1 (.int .i64 (n : Int)) (by simp))
  have f0 := (unhide HA2).cell (i := 0) rfl
  have f1 := (unhide HA2).cell (i := 1) rfl
  have hne : ¬ g = g0 + 1 := by omega
  have HKS : Hid (Kept (fun b => b = g0 + 1) wd ((wd.setCell ⟨g0 + 1, 0, none⟩ (.pointer q)).setCell ⟨g0 + 1, 1, none⟩ (.int .i64 (n : Int)))) := ((Kept.refl (fun b => b = g0 + 1) _).setCell (p := ⟨g0 + 1, 0, none⟩) rfl _).setCell (p := ⟨g0 + 1, 1, none⟩) rfl _
  have hWB : Below w.heap.size w wd := unhide HW
  replace HB := hide ((unhide HB).kept (unhide HKS) (by omega))
  replace HL := hide ((unhide HL).kept (unhide HKS) (by omega))
  go_simp
  refine hK.out _ _ ⟨(unhide HB).cell (i := 0) rfl, (unhide HB).cell (i := 1) rfl, (unhide HL).cell (i := 1) rfl⟩ (fun hHeld => ?_)
  clear hK K
  try simp only [Act.put, List.setIfInBounds_toArray, List.set_cons_zero, List.set_cons_succ]
  refine wpAnyH_done (by kernel_rfl) ?_ _
  go_wp2_with fail
  refine bodyPost_ret (v := .agg #[.pointer q, .int .i64 (n : Int)]) (by simp [results, Try.results108, go_sem, f0, f1]) rfl ?_
  exact ⟨rfl, below_kept hWB (unhide HKS) hWB.size (fun b e => by omega)⟩

set_option maxHeartbeats 1600000 in
theorem ownCopyPileI_any (ar : Option Addr) (m cr : Nat) (Z : List (Option Addr × Nat)) (w : World) (h : RecsIn 2 ePl w (.slice ar m cr) Z) (hm : m ≤ 1048576) :
    Calls Try.prog 106 #[.slice ar m cr] w fun e w' => e = .returned (.slice (some ⟨w.heap.size, 0, none⟩) m m) ∧ OwnV w' w.heap.size (recCells 2 ePl Z) ∧ Below w.heap.size w w' := by
  have hlen : Z.length = m := by
    obtain ⟨ao', cap', e, _⟩ := h
    simp only [Value.slice.injEq] at e
    exact e.2.1.symm
  have hmk := run_make_recs (P := Try.prog) 71 115 _ 2 16 Try.underlying71 Try.infoPileI .i64 .i64 m (by omega) (by omega)
  rw [show (Value.agg #[.pointer none, .int .i64 0]).cells = #[.pointer none, .int .i64 0] from rfl] at hmk
  obtain ⟨Q, eQ⟩ : ∃ Q : Array Value, Q = #[.pointer none, .int .i64 0] := ⟨_, rfl⟩
  rw [← eQ] at hmk
  have hsz : (Try.prog.info? 115).map (·.size) = some 2 := by
    obtain ⟨i0, hi, hzz⟩ := Option.map_eq_some_iff.1 Try.infoPileI
    simp only [Prod.mk.injEq] at hzz
    rw [hi, Option.map_some, hzz.2.1]
  have HSRC := hide (recs_src h)
  have HCS : Hid ((recCells 2 ePl Z).length = m * 2) := by show _ = _; rw [recCells_length, hlen]
  have H1 : Hid (∀ v ∈ recCells 2 ePl Z, v.oneCell' = true) := fun v hv => by
    unfold recCells at hv
    obtain ⟨k, _, rfl⟩ := List.mem_map.1 hv
    unfold ePl
    split <;> rfl
  have A := Below.alloc1 w (.cells (madeCells Q (m * 2)) 115)
  have HW := hide A
  have O := ownV_alloc w (madeCells Q (m * 2)) 115
  have HO := hide O
  have hzl : (madeCells Q (m * 2)).toList.length = m * 2 := by simp [madeCells]
  have HZL := hide hzl
  have HSRC2 : Hid (0 < m → ∃ ad, ar = some ad ∧ ∀ j v, (recCells 2 ePl Z)[j]? = some v → (w.alloc (.cells (madeCells Q (m * 2)) 115)).cell? (ad.add j) = some v) := fun hp => by
    obtain ⟨ad, e, hx⟩ := unhide HSRC hp
    exact ⟨ad, e, fun j v hj => ((A.cell (lt_of_cell (hx j v hj))).trans (hx j v hj))⟩
  obtain ⟨w1, hrun, hO1, hb1⟩ := run_copy_all 71 71 115 2 Try.underlying71 hsz w.heap.size m m ar cr _ _ (unhide HO) (by rw [unhide HZL, unhide HCS]) (unhide HCS) (unhide HSRC2) (unhide H1) w.heap.size w (unhide HW) (Nat.le_refl _)
  have HO1 := hide hO1
  have HW1 := hide hb1
  clear h eQ A O hzl HSRC hsz HO HW HSRC2 H1 HCS HZL hO1 hb1 hlen
  go_enter Try.func106, Try.ntmps106
  go_wp2
  go_ret
  exact ⟨rfl, unhide HO1, unhide HW1⟩

set_option maxHeartbeats 1600000 in
theorem isEmptyI_any (H : Int) (g cap : Nat) (Z : List (Option Addr × Nat)) (P : List (List Int)) (s : Nat) (w : World) (h : Gnd w g Z P) (hs : s < P.length) (_ : P.length ≤ cap) (_ : cap ≤ 1048576) :
    Calls Try.prog 104 #[gndV H g P.length cap, .int .i64 (s : Int)] w fun e w' => e = .returned (.bool (emB P s)) ∧ Below w.heap.size w w' := by
  obtain ⟨n, en⟩ : ∃ n, (P.getD s []).length = n := ⟨_, rfl⟩
  unfold emB
  rw [en]
  have EN := hide en
  clear en
  have hsi : (s : Int) < (P.length : Int) := by omega
  cases n with
  | zero =>
    rw [show decide (0 = 0) = true from rfl]
    have HG := hide h
    clear h
    unfold gndV
    go_enter Try.func104, Try.ntmps104
    go_upto_region 1 with (fail)
    obtain ⟨g0, eg0⟩ : ∃ z, z = w.heap.size := ⟨_, rfl⟩
    have hgl : g < g0 := by rw [eg0]; exact (unhide HG).top.lt
    obtain ⟨W, eW⟩ : ∃ z, z = w.alloc (.cells #[.int .i64 H, .slice (some ⟨g, 0, none⟩) P.length cap] 73) := ⟨_, rfl⟩
    have hb : Below w.heap.size w W := by rw [eW]; exact Below.alloc1 _ _
    have HB : Hid (OwnV W g0 [.int .i64 H, .slice (some ⟨g, 0, none⟩) P.length cap]) := by rw [eW, eg0]; exact ownV_alloc _ _ _
    rw [← eW, ← eg0]
    have hg0 : w.heap.size ≤ g0 := by omega
    clear eW eg0
    have HW := hide hb
    replace HG := hide ((unhide HG).below hb)
    clear hb
    obtain ⟨p0, p1⟩ := (unhide HG).at hs
    rw [unhide EN] at p1
    have b1 := (unhide HB).cell (i := 1) rfl
    go_wp2
    go_ret
    exact ⟨rfl, unhide HW⟩
  | succ n =>
    have e0 : decide (n + 1 = 0) = false := rfl
    rw [e0]
    have HG := hide h
    clear h
    unfold gndV
    go_enter Try.func104, Try.ntmps104
    go_upto_region 1 with (fail)
    obtain ⟨g0, eg0⟩ : ∃ z, z = w.heap.size := ⟨_, rfl⟩
    have hgl : g < g0 := by rw [eg0]; exact (unhide HG).top.lt
    obtain ⟨W, eW⟩ : ∃ z, z = w.alloc (.cells #[.int .i64 H, .slice (some ⟨g, 0, none⟩) P.length cap] 73) := ⟨_, rfl⟩
    have hb : Below w.heap.size w W := by rw [eW]; exact Below.alloc1 _ _
    have HB : Hid (OwnV W g0 [.int .i64 H, .slice (some ⟨g, 0, none⟩) P.length cap]) := by rw [eW, eg0]; exact ownV_alloc _ _ _
    rw [← eW, ← eg0]
    have hg0 : w.heap.size ≤ g0 := by omega
    clear eW eg0
    have HW := hide hb
    replace HG := hide ((unhide HG).below hb)
    clear hb
    obtain ⟨p0, p1⟩ := (unhide HG).at hs
    rw [unhide EN] at p1
    have b1 := (unhide HB).cell (i := 1) rfl
    have e1 : ((((n + 1 : Nat) : Int)) == 0) = false := by simp; omega
    go_wp2
    go_ret
    exact ⟨by simp; try omega, unhide HW⟩

set_option maxHeartbeats 1600000 in
theorem isFullI_any (H : Int) (g cap : Nat) (Z : List (Option Addr × Nat)) (P : List (List Int)) (s : Nat) (w : World) (h : Gnd w g Z P) (hs : s < P.length) (_ : P.length ≤ cap) (_ : cap ≤ 1048576) :
    Calls Try.prog 105 #[gndV H g P.length cap, .int .i64 (s : Int)] w fun e w' => e = .returned (.bool (fuB H P s)) ∧ Below w.heap.size w w' := by
  obtain ⟨n, en⟩ : ∃ n, (P.getD s []).length = n := ⟨_, rfl⟩
  unfold fuB
  rw [en]
  have EN := hide en
  clear en
  have hsi : (s : Int) < (P.length : Int) := by omega
  by_cases hf : H ≤ (n : Int)
  · have e0 : decide (H ≤ (n : Int)) = true := by simpa using hf
    rw [e0]
    have HG := hide h
    clear h
    unfold gndV
    go_enter Try.func105, Try.ntmps105
    go_upto_region 1 with (fail)
    obtain ⟨g0, eg0⟩ : ∃ z, z = w.heap.size := ⟨_, rfl⟩
    have hgl : g < g0 := by rw [eg0]; exact (unhide HG).top.lt
    obtain ⟨W, eW⟩ : ∃ z, z = w.alloc (.cells #[.int .i64 H, .slice (some ⟨g, 0, none⟩) P.length cap] 73) := ⟨_, rfl⟩
    have hb : Below w.heap.size w W := by rw [eW]; exact Below.alloc1 _ _
    have HB : Hid (OwnV W g0 [.int .i64 H, .slice (some ⟨g, 0, none⟩) P.length cap]) := by rw [eW, eg0]; exact ownV_alloc _ _ _
    rw [← eW, ← eg0]
    have hg0 : w.heap.size ≤ g0 := by omega
    clear eW eg0
    have HW := hide hb
    replace HG := hide ((unhide HG).below hb)
    clear hb
    have HP1 : Hid (W.cell? ⟨g, s * 2 + 1, none⟩ = some (.int .i64 (n : Int))) := by rw [← unhide EN]; exact ((unhide HG).at hs).2
    have gt0 := fun x' : Gr W => gr_cell ((unhide HB).cell (i := 0) rfl) x'
    have gt1 := fun x' : Gr W => gr_cell ((unhide HB).cell (i := 1) rfl) x'
    have gt2 := fun x' : Gr W => gr_cell (unhide HP1) x'
    have gsome := gr_some W
    refine wp_region_grown (by kernel_rfl) (by kernel_rfl) ?_
    repeat (go_big_quiet_step (fail))
    refine wpQuiet_nil ?_
    intro wz hw1
    obtain ⟨z', hz⟩ := hw1
    have hb : Below W.heap.size W wz := hz ▸ z'.ok
    clear hz z' gsome gt0 gt1 gt2
    replace HW := hide (Below.step (unhide HW) hb)
    clear hb
    go_wp2
    go_ret
    exact ⟨rfl, unhide HW⟩
  · have e0 : decide (H ≤ (n : Int)) = false := by simpa using hf
    rw [e0]
    have HG := hide h
    clear h
    unfold gndV
    go_enter Try.func105, Try.ntmps105
    go_upto_region 1 with (fail)
    obtain ⟨g0, eg0⟩ : ∃ z, z = w.heap.size := ⟨_, rfl⟩
    have hgl : g < g0 := by rw [eg0]; exact (unhide HG).top.lt
    obtain ⟨W, eW⟩ : ∃ z, z = w.alloc (.cells #[.int .i64 H, .slice (some ⟨g, 0, none⟩) P.length cap] 73) := ⟨_, rfl⟩
    have hb : Below w.heap.size w W := by rw [eW]; exact Below.alloc1 _ _
    have HB : Hid (OwnV W g0 [.int .i64 H, .slice (some ⟨g, 0, none⟩) P.length cap]) := by rw [eW, eg0]; exact ownV_alloc _ _ _
    rw [← eW, ← eg0]
    have hg0 : w.heap.size ≤ g0 := by omega
    clear eW eg0
    have HW := hide hb
    replace HG := hide ((unhide HG).below hb)
    clear hb
    have HP1 : Hid (W.cell? ⟨g, s * 2 + 1, none⟩ = some (.int .i64 (n : Int))) := by rw [← unhide EN]; exact ((unhide HG).at hs).2
    have gt0 := fun x' : Gr W => gr_cell ((unhide HB).cell (i := 0) rfl) x'
    have gt1 := fun x' : Gr W => gr_cell ((unhide HB).cell (i := 1) rfl) x'
    have gt2 := fun x' : Gr W => gr_cell (unhide HP1) x'
    have gsome := gr_some W
    refine wp_region_grown (by kernel_rfl) (by kernel_rfl) ?_
    repeat (go_big_quiet_step (fail))
    refine wpQuiet_nil ?_
    intro wz hw1
    obtain ⟨z', hz⟩ := hw1
    have hb : Below W.heap.size W wz := hz ▸ z'.ok
    clear hz z' gsome gt0 gt1 gt2
    replace HW := hide (Below.step (unhide HW) hb)
    clear hb
    go_wp2
    go_ret
    exact ⟨rfl, unhide HW⟩

set_option maxRecDepth 10000 in
set_option maxHeartbeats 3200000 in
theorem putI_any (H : Int) (g cap : Nat) (Z : List (Option Addr × Nat)) (P : List (List Int)) (x : Int) (s : Nat) (w : World) (h : Gnd w g Z P) (hs : s < P.length) (_ : P.length ≤ cap) (_ : cap ≤ 1048576) (hh : (P.getD s []).length ≤ 1048576) :
    Calls Try.prog 84 #[gndV H g P.length cap, .int .i64 x, .int .i64 (s : Int)] w fun e w' => e = .returned (.tuple #[]) ∧ ∃ Z', Gnd w' g Z' (P.set s (x :: P.getD s [])) ∧ Kept (fun b => b = g) w w' := by
  obtain ⟨row, erow⟩ : ∃ row, P.getD s [] = row := ⟨_, rfl⟩
  rw [erow] at hh ⊢
  have ER := hide erow
  clear erow
  have HG := hide h
  clear h
  unfold gndV
  go_enter Try.func84, Try.ntmps84
  go_upto_region 1 with (fail)
  obtain ⟨g0, eg0⟩ : ∃ z, z = w.heap.size := ⟨_, rfl⟩
  have hgl : g < g0 := by rw [eg0]; exact (unhide HG).top.lt
  obtain ⟨W, eW⟩ : ∃ z, z = w.alloc (.cells #[.int .i64 H, .slice (some ⟨g, 0, none⟩) P.length cap] 73) := ⟨_, rfl⟩
  have hb : Below w.heap.size w W := by rw [eW]; exact Below.alloc1 _ _
  have HB : Hid (OwnV W g0 [.int .i64 H, .slice (some ⟨g, 0, none⟩) P.length cap]) := by rw [eW, eg0]; exact ownV_alloc _ _ _
  rw [← eW, ← eg0]
  have hg0 : w.heap.size ≤ g0 := by omega
  clear eW eg0
  have HW := hide hb
  replace HG := hide ((unhide HG).below hb)
  clear hb
  obtain ⟨n, en⟩ : ∃ n, row.length = n := ⟨_, rfl⟩
  rw [en] at hh
  have EN := hide en
  clear en
  obtain ⟨p, ep⟩ : ∃ p, (Z.getD s default).1 = p := ⟨_, rfl⟩
  have EP := hide ep
  clear ep
  have hsi : (s : Int) < (P.length : Int) := by omega
  obtain ⟨wd, ewd⟩ : ∃ z, z = W.drew := ⟨_, rfl⟩
  have hb : Below W.heap.size W wd := by rw [ewd]; exact (Below.refl _ _).drew
  replace HG := hide ((unhide HG).below hb)
  replace HB := hide ((unhide HB).step hb)
  replace HW := hide (Below.step (unhide HW) hb)
  clear hb
  refine wp_region_held_drew (S := fun w' => w'.cell? ⟨g0, 1, none⟩ = some (.slice (some ⟨g, 0, none⟩) P.length cap)) (by kernel_rfl) (by rw [← ewd]; exact ((unhide HB).cell (i := 1) rfl)) (fun hHeld => ?_)
  rw [← ewd] at hHeld ⊢
  clear ewd
  refine wpAnyH_take (i := 0) (v := ?_) rfl (by kernel_rfl) (by kernel_rfl) (by kernel_rfl) (fun _ _ _ h => h) (Or.inl ⟨by rfl, ?_⟩) (by assumption) ?_
  rotate_left
  · intro wy hSw
    have hS0 := hSw
    go_simp
    try with_reducible rfl
  try simp only [Act.put, List.getElem_toArray, List.getElem_cons_zero, List.setIfInBounds_toArray, List.set_cons_zero, List.set_cons_succ]
  refine wpAnyH_take (i := 1) (v := ?_) rfl (by kernel_rfl) (by kernel_rfl) (by kernel_rfl) (fun _ _ _ h => h) (Or.inl ⟨by rfl, ?_⟩) (by assumption) ?_
  rotate_left
  · intro wy hSw
    have hS0 := hSw
    go_simp
    try with_reducible rfl
  try simp only [Act.put, List.getElem_toArray, List.getElem_cons_succ, List.getElem_cons_zero, List.setIfInBounds_toArray, List.set_cons_zero, List.set_cons_succ]
  refine wpAnyH_take (i := 2) (v := ?_) rfl (by kernel_rfl) (by kernel_rfl) (by kernel_rfl) (fun _ _ _ h => h) (Or.inl ⟨by rfl, ?_⟩) (by assumption) ?_
  rotate_left
  · intro wy hSw
    have hS0 := hSw
    go_simp
    try with_reducible rfl
  try simp only [Act.put, List.getElem_toArray, List.getElem_cons_succ, List.getElem_cons_zero, List.setIfInBounds_toArray, List.set_cons_zero, List.set_cons_succ]
  refine wpAnyH_take (i := 3) (v := ?_) rfl (by kernel_rfl) (by kernel_rfl) (by kernel_rfl) (fun _ _ _ h => h) (Or.inl ⟨by rfl, ?_⟩) (by assumption) ?_
  rotate_left
  · intro wy hSw
    have hS0 := hSw
    go_simp
    try with_reducible rfl
  try simp only [Act.put, List.getElem_toArray, List.getElem_cons_succ, List.getElem_cons_zero, List.setIfInBounds_toArray, List.set_cons_zero, List.set_cons_succ]
  refine wpAnyH_take (i := 4) (v := ?_) rfl (by kernel_rfl) (by kernel_rfl) (by kernel_rfl) (fun _ _ _ h => h) (Or.inl ⟨by rfl, ?_⟩) (by assumption) ?_
  rotate_left
  · intro wy hSw
    have hS0 := hSw
    go_simp
    try with_reducible rfl
  try simp only [Act.put, List.getElem_toArray, List.getElem_cons_succ, List.getElem_cons_zero, List.setIfInBounds_toArray, List.set_cons_zero, List.set_cons_succ]
  refine wpAnyH_take (i := 5) (v := ?_) rfl (by kernel_rfl) (by kernel_rfl) (by kernel_rfl) (fun _ _ _ h => h) (Or.inl ⟨by rfl, ?_⟩) (by assumption) ?_
  rotate_left
  · intro wy hSw
    have hS0 := hSw
    go_simp
    try with_reducible rfl
  try simp only [Act.put, List.getElem_toArray, List.getElem_cons_succ, List.getElem_cons_zero, List.setIfInBounds_toArray, List.set_cons_zero, List.set_cons_succ]
  refine wpAnyH_take (i := 6) (v := ?_) rfl (by kernel_rfl) (by kernel_rfl) (by kernel_rfl) (fun _ _ _ h => h) (Or.inl ⟨by rfl, ?_⟩) (by assumption) ?_
  rotate_left
  · intro wy hSw
    have hS0 := hSw
    go_simp
    try with_reducible rfl
  try simp only [Act.put, List.getElem_toArray, List.getElem_cons_succ, List.getElem_cons_zero, List.setIfInBounds_toArray, List.set_cons_zero, List.set_cons_succ]
  refine wpAnyH_take (i := 8) (v := ?_) rfl (by kernel_rfl) (by kernel_rfl) (by kernel_rfl) (fun _ _ _ h => h) (Or.inl ⟨by rfl, ?_⟩) (by assumption) ?_
  rotate_left
  · intro wy hSw
    have hS0 := hSw
    go_simp
    try with_reducible rfl
  try simp only [Act.put, List.getElem_toArray, List.getElem_cons_succ, List.getElem_cons_zero, List.setIfInBounds_toArray, List.set_cons_zero, List.set_cons_succ]
  refine wpAnyH_ready (rs := [7]) (by kernel_rfl) (by simp) ?_
  refine AllReadyH.cons rfl (fun K hK => ?_) AllReadyH.nil
  obtain ⟨p0, p1⟩ := (unhide HG).at hs
  rw [unhide EP] at p0
  rw [unhide ER, unhide EN] at p1
  go_simp
  clear p0 p1
  refine hK.out _ _ hHeld (fun hHeld => ?_)
  clear hK K
  try simp only [Act.put, List.setIfInBounds_toArray, List.set_cons_zero, List.set_cons_succ]
  refine wpAnyH_ready (rs := [9]) (by kernel_rfl) (by simp) ?_
  refine AllReadyH.cons rfl (fun K hK => ?_) AllReadyH.nil
  go_simp
  refine (withI_any p n x _ (by omega)).mono ?_
  rintro e w6 ⟨g5, rfl, ho5, hg5, hb⟩
  replace HG := hide ((unhide HG).below hb)
  replace HB := hide ((unhide HB).step hb)
  replace HW := hide (Below.step (unhide HW) hb)
  clear hb
  have HL5 : Hid (Lnk w6 (x :: row) (some ⟨g5, 0, none⟩)) := ⟨g5, p, rfl, ho5, by have h1 := (unhide HG).lnk s hs; rw [unhide ER, unhide EP] at h1; exact h1⟩
  clear ho5
  refine hK.out _ _ ((unhide HB).cell (i := 1) rfl) (fun hHeld => ?_)
  clear hK K
  try simp only [Act.put, List.setIfInBounds_toArray, List.set_cons_zero, List.set_cons_succ]
  refine wpAnyH_take (i := 10) (v := ?_) rfl (by kernel_rfl) (by kernel_rfl) (by kernel_rfl) (fun _ _ _ h => h) (Or.inl ⟨by rfl, ?_⟩) (by assumption) ?_
  rotate_left
  · intro wy hSw
    have hS0 := hSw
    go_simp
    try with_reducible rfl
  try simp only [Act.put, List.getElem_toArray, List.getElem_cons_succ, List.getElem_cons_zero, List.setIfInBounds_toArray, List.set_cons_zero, List.set_cons_succ]
  refine wpAnyH_ready (rs := [11]) (by kernel_rfl) (by simp) ?_
  refine AllReadyH.cons rfl (fun K hK => ?_) AllReadyH.nil
  obtain ⟨p0, p1⟩ := (unhide HG).at hs
  rw [unhide EP] at p0
  rw [unhide ER, unhide EN] at p1
  have fr0 := (unhide HG).top.frozen (s * 2)
  have fr1 := (unhide HG).top.frozen (s * 2 + 1)
  have HN := hide ((unhide HG).put hs (unhide HL5))
  have e5 : (x :: row).length = n + 1 := by rw [List.length_cons, unhide EN]
  rw [e5] at HN
  have HKS : Hid (Kept (fun b => b = g) w6 ((w6.setCell ⟨g, s * 2, none⟩ (.pointer (some ⟨g5, 0, none⟩))).setCell ⟨g, s * 2 + 1, none⟩ (.int .i64 ((n + 1 : Nat) : Int)))) := ((Kept.refl (fun b => b = g) _).setCell (p := ⟨g, s * 2, none⟩) rfl _).setCell (p := ⟨g, s * 2 + 1, none⟩) rfl _
  have hWB : Below w.heap.size w w6 := unhide HW
  replace HB := hide ((unhide HB).kept (unhide HKS) (by omega))
  go_simp
  clear p0 p1 fr0 fr1
  refine hK.out _ _ ((unhide HB).cell (i := 1) rfl) (fun hHeld => ?_)
  clear hK K
  try simp only [Act.put, List.setIfInBounds_toArray, List.set_cons_zero, List.set_cons_succ]
  refine wpAnyH_done (by kernel_rfl) ?_ _
  go_wp2_with fail
  go_end0
  exact ⟨rfl, _, unhide HN, (kept_of_below hWB).trans (unhide HKS)⟩

set_option maxRecDepth 10000 in
set_option maxHeartbeats 3200000 in
theorem liftI_any (H : Int) (g cap : Nat) (Z : List (Option Addr × Nat)) (P : List (List Int)) (x : Int) (xs : List Int) (s : Nat) (w : World) (h : Gnd w g Z P) (hs : s < P.length) (_ : P.length ≤ cap) (_ : cap ≤ 1048576) (hx : P.getD s [] = x :: xs) (hh : xs.length ≤ 1048576) :
    Calls Try.prog 83 #[gndV H g P.length cap, .int .i64 (s : Int)] w fun e w' => e = .returned (.int .i64 x) ∧ ∃ Z', Gnd w' g Z' (P.set s xs) ∧ Kept (fun b => b = g) w w' := by
  have HG := hide h
  clear h
  unfold gndV
  go_enter Try.func83, Try.ntmps83
  go_upto_region 1 with (fail)
  obtain ⟨g0, eg0⟩ : ∃ z, z = w.heap.size := ⟨_, rfl⟩
  have hgl : g < g0 := by rw [eg0]; exact (unhide HG).top.lt
  obtain ⟨W, eW⟩ : ∃ z, z = w.alloc (.cells #[.int .i64 H, .slice (some ⟨g, 0, none⟩) P.length cap] 73) := ⟨_, rfl⟩
  have hb : Below w.heap.size w W := by rw [eW]; exact Below.alloc1 _ _
  have HB : Hid (OwnV W g0 [.int .i64 H, .slice (some ⟨g, 0, none⟩) P.length cap]) := by rw [eW, eg0]; exact ownV_alloc _ _ _
  rw [← eW, ← eg0]
  have hg0 : w.heap.size ≤ g0 := by omega
  clear eW eg0
  have HW := hide hb
  replace HG := hide ((unhide HG).below hb)
  clear hb
  have EX := hide hx
  clear hx
  obtain ⟨n, en⟩ : ∃ n, xs.length = n := ⟨_, rfl⟩
  rw [en] at hh
  have EN := hide en
  clear en
  obtain ⟨p, ep⟩ : ∃ p, (Z.getD s default).1 = p := ⟨_, rfl⟩
  have EP := hide ep
  clear ep
  have hL := (unhide HG).lnk s hs
  rw [unhide EP, unhide EX] at hL
  obtain ⟨g2, q, e2, ho, hl⟩ := hL
  subst e2
  have HO := hide ho
  have HLQ := hide hl
  clear ho hl
  have hsi : (s : Int) < (P.length : Int) := by omega
  obtain ⟨p0, p1⟩ := (unhide HG).at hs
  rw [unhide EP] at p0
  rw [unhide EX, List.length_cons, unhide EN] at p1
  have x0 := (unhide HO).cell (i := 0) rfl
  have b1 := (unhide HB).cell (i := 1) rfl
  go_upto_region 2 with (fail)
  clear p0 p1 x0 b1
  obtain ⟨wd, ewd⟩ : ∃ z, z = W.drew := ⟨_, rfl⟩
  have hb : Below W.heap.size W wd := by rw [ewd]; exact (Below.refl _ _).drew
  replace HG := hide ((unhide HG).below hb)
  replace HB := hide ((unhide HB).step hb)
  replace HO := hide ((unhide HO).step hb)
  replace HLQ := hide ((unhide HLQ).below hb)
  replace HW := hide (Below.step (unhide HW) hb)
  clear hb
  refine wp_region_held_drew (S := fun w' => w'.cell? ⟨g0, 1, none⟩ = some (.slice (some ⟨g, 0, none⟩) P.length cap)) (by kernel_rfl) (by rw [← ewd]; exact ((unhide HB).cell (i := 1) rfl)) (fun hHeld => ?_)
  rw [← ewd] at hHeld ⊢
  clear ewd
  refine wpAnyH_take (i := 0) (v := ?_) rfl (by kernel_rfl) (by kernel_rfl) (by kernel_rfl) (fun _ _ _ h => h) (Or.inl ⟨by rfl, ?_⟩) (by assumption) ?_
  rotate_left
  · intro wy hSw
    have hS0 := hSw
    go_simp
    try with_reducible rfl
  try simp only [Act.put, List.getElem_toArray, List.getElem_cons_zero, List.setIfInBounds_toArray, List.set_cons_zero, List.set_cons_succ]
  refine wpAnyH_take (i := 1) (v := ?_) rfl (by kernel_rfl) (by kernel_rfl) (by kernel_rfl) (fun _ _ _ h => h) (Or.inl ⟨by rfl, ?_⟩) (by assumption) ?_
  rotate_left
  · intro wy hSw
    have hS0 := hSw
    go_simp
    try with_reducible rfl
  try simp only [Act.put, List.getElem_toArray, List.getElem_cons_succ, List.getElem_cons_zero, List.setIfInBounds_toArray, List.set_cons_zero, List.set_cons_succ]
  refine wpAnyH_take (i := 2) (v := ?_) rfl (by kernel_rfl) (by kernel_rfl) (by kernel_rfl) (fun _ _ _ h => h) (Or.inl ⟨by rfl, ?_⟩) (by assumption) ?_
  rotate_left
  · intro wy hSw
    have hS0 := hSw
    go_simp
    try with_reducible rfl
  try simp only [Act.put, List.getElem_toArray, List.getElem_cons_succ, List.getElem_cons_zero, List.setIfInBounds_toArray, List.set_cons_zero, List.set_cons_succ]
  refine wpAnyH_take (i := 3) (v := ?_) rfl (by kernel_rfl) (by kernel_rfl) (by kernel_rfl) (fun _ _ _ h => h) (Or.inl ⟨by rfl, ?_⟩) (by assumption) ?_
  rotate_left
  · intro wy hSw
    have hS0 := hSw
    go_simp
    try with_reducible rfl
  try simp only [Act.put, List.getElem_toArray, List.getElem_cons_succ, List.getElem_cons_zero, List.setIfInBounds_toArray, List.set_cons_zero, List.set_cons_succ]
  refine wpAnyH_take (i := 4) (v := ?_) rfl (by kernel_rfl) (by kernel_rfl) (by kernel_rfl) (fun _ _ _ h => h) (Or.inl ⟨by rfl, ?_⟩) (by assumption) ?_
  rotate_left
  · intro wy hSw
    have hS0 := hSw
    go_simp
    try with_reducible rfl
  try simp only [Act.put, List.getElem_toArray, List.getElem_cons_succ, List.getElem_cons_zero, List.setIfInBounds_toArray, List.set_cons_zero, List.set_cons_succ]
  refine wpAnyH_take (i := 5) (v := ?_) rfl (by kernel_rfl) (by kernel_rfl) (by kernel_rfl) (fun _ _ _ h => h) (Or.inl ⟨by rfl, ?_⟩) (by assumption) ?_
  rotate_left
  · intro wy hSw
    have hS0 := hSw
    go_simp
    try with_reducible rfl
  try simp only [Act.put, List.getElem_toArray, List.getElem_cons_succ, List.getElem_cons_zero, List.setIfInBounds_toArray, List.set_cons_zero, List.set_cons_succ]
  refine wpAnyH_take (i := 6) (v := ?_) rfl (by kernel_rfl) (by kernel_rfl) (by kernel_rfl) (fun _ _ _ h => h) (Or.inl ⟨by rfl, ?_⟩) (by assumption) ?_
  rotate_left
  · intro wy hSw
    have hS0 := hSw
    go_simp
    try with_reducible rfl
  try simp only [Act.put, List.getElem_toArray, List.getElem_cons_succ, List.getElem_cons_zero, List.setIfInBounds_toArray, List.set_cons_zero, List.set_cons_succ]
  refine wpAnyH_ready (rs := [7]) (by kernel_rfl) (by simp) ?_
  refine AllReadyH.cons rfl (fun K hK => ?_) AllReadyH.nil
  obtain ⟨p0, p1⟩ := (unhide HG).at hs
  rw [unhide EP] at p0
  rw [unhide EX, List.length_cons, unhide EN] at p1
  go_simp
  clear p0 p1
  refine hK.out _ _ hHeld (fun hHeld => ?_)
  clear hK K
  try simp only [Act.put, List.setIfInBounds_toArray, List.set_cons_zero, List.set_cons_succ]
  refine wpAnyH_ready (rs := [8]) (by kernel_rfl) (by simp) ?_
  refine AllReadyH.cons rfl (fun K hK => ?_) AllReadyH.nil
  go_simp
  have HQW := hide (withoutI_any g2 q n x wd (unhide HO) (by omega))
  unfold plV at HQW
  refine (unhide HQW).mono ?_
  rintro e w6 ⟨rfl, hb⟩
  replace HG := hide ((unhide HG).below hb)
  replace HB := hide ((unhide HB).step hb)
  replace HLQ := hide ((unhide HLQ).below hb)
  replace HW := hide (Below.step (unhide HW) hb)
  clear hb HQW
  refine hK.out _ _ ((unhide HB).cell (i := 1) rfl) (fun hHeld => ?_)
  clear hK K
  try simp only [Act.put, List.setIfInBounds_toArray, List.set_cons_zero, List.set_cons_succ]
  refine wpAnyH_take (i := 9) (v := ?_) rfl (by kernel_rfl) (by kernel_rfl) (by kernel_rfl) (fun _ _ _ h => h) (Or.inl ⟨by rfl, ?_⟩) (by assumption) ?_
  rotate_left
  · intro wy hSw
    have hS0 := hSw
    go_simp
    try with_reducible rfl
  try simp only [Act.put, List.getElem_toArray, List.getElem_cons_succ, List.getElem_cons_zero, List.setIfInBounds_toArray, List.set_cons_zero, List.set_cons_succ]
  refine wpAnyH_ready (rs := [10]) (by kernel_rfl) (by simp) ?_
  refine AllReadyH.cons rfl (fun K hK => ?_) AllReadyH.nil
  obtain ⟨p0, p1⟩ := (unhide HG).at hs
  rw [unhide EP] at p0
  rw [unhide EX, List.length_cons, unhide EN] at p1
  have fr0 := (unhide HG).top.frozen (s * 2)
  have fr1 := (unhide HG).top.frozen (s * 2 + 1)
  have HN := hide ((unhide HG).put hs (unhide HLQ))
  rw [unhide EN] at HN
  have HKS : Hid (Kept (fun b => b = g) w6 ((w6.setCell ⟨g, s * 2, none⟩ (.pointer q)).setCell ⟨g, s * 2 + 1, none⟩ (.int .i64 (n : Int)))) := ((Kept.refl (fun b => b = g) _).setCell (p := ⟨g, s * 2, none⟩) rfl _).setCell (p := ⟨g, s * 2 + 1, none⟩) rfl _
  have hWB : Below w.heap.size w w6 := unhide HW
  replace HB := hide ((unhide HB).kept (unhide HKS) (by omega))
  go_simp
  clear p0 p1 fr0 fr1
  refine hK.out _ _ ((unhide HB).cell (i := 1) rfl) (fun hHeld => ?_)
  clear hK K
  try simp only [Act.put, List.setIfInBounds_toArray, List.set_cons_zero, List.set_cons_succ]
  refine wpAnyH_done (by kernel_rfl) ?_ _
  go_wp2
  go_ret
  exact ⟨rfl, _, unhide HN, (kept_of_below hWB).trans (unhide HKS)⟩

set_option maxRecDepth 10000 in
set_option maxHeartbeats 3200000 in
theorem ownI_any (H : Int) (g cap : Nat) (Z : List (Option Addr × Nat)) (P : List (List Int)) (w : World) (h : Gnd w g Z P) (hc1 : P.length ≤ cap) (hc2 : cap ≤ 1048576) :
    Calls Try.prog 81 #[gndV H g P.length cap] w fun e w' => ∃ g', e = .returned (gndV H g' P.length P.length) ∧ w.heap.size ≤ g' ∧ Gnd w' g' Z P ∧ Below w.heap.size w w' := by
  have HG := hide h
  clear h
  unfold gndV
  go_enter Try.func81, Try.ntmps81
  go_upto_region 1 with (fail)
  obtain ⟨g0, eg0⟩ : ∃ z, z = w.heap.size := ⟨_, rfl⟩
  obtain ⟨W, eW⟩ : ∃ z, z = (w.alloc (.cells #[.int .i64 H, .slice (some ⟨g, 0, none⟩) P.length cap] 73)).alloc (.cells #[.int .i64 0, .slice none 0 0] 73) := ⟨_, rfl⟩
  have hb : Below w.heap.size w W := by rw [eW]; exact Below.step (Below.alloc1 _ _) (Below.alloc1 _ _)
  have HB : Hid (OwnV W g0 [.int .i64 H, .slice (some ⟨g, 0, none⟩) P.length cap]) := by rw [eW, eg0]; exact (ownV_alloc _ _ _).step (Below.alloc1 _ _)
  have HA : Hid (OwnV W (g0 + 1) [.int .i64 0, .slice none 0 0]) := by rw [eW, eg0]; exact own_new _ _ _ _ (by simp)
  rw [← eW, ← eg0]
  have hg0 : w.heap.size ≤ g0 := by omega
  clear eW eg0
  have HW := hide hb
  replace HG := hide ((unhide HG).below hb)
  clear hb
  obtain ⟨wd, ewd⟩ : ∃ z, z = W.drew := ⟨_, rfl⟩
  have hb : Below W.heap.size W wd := by rw [ewd]; exact (Below.refl _ _).drew
  replace HG := hide ((unhide HG).below hb)
  replace HB := hide ((unhide HB).step hb)
  replace HA := hide ((unhide HA).step hb)
  replace HW := hide (Below.step (unhide HW) hb)
  clear hb
  refine wp_region_held_drew (S := fun w' => w'.cell? ⟨g0, 0, none⟩ = some (.int .i64 H) ∧ w'.cell? ⟨g0, 1, none⟩ = some (.slice (some ⟨g, 0, none⟩) P.length cap)) (by kernel_rfl) ⟨by rw [← ewd]; exact (unhide HB).cell (i := 0) rfl, by rw [← ewd]; exact (unhide HB).cell (i := 1) rfl⟩ (fun hHeld => ?_)
  rw [← ewd] at hHeld ⊢
  clear ewd
  refine wpAnyH_take (i := 0) (v := ?_) rfl (by kernel_rfl) (by kernel_rfl) (by kernel_rfl) (fun _ _ _ h => h) (Or.inl ⟨by rfl, ?_⟩) (by assumption) ?_
  rotate_left
  · intro wy hSw
    obtain ⟨hS0, hS1⟩ := hSw
    go_simp
    try with_reducible rfl
  try simp only [Act.put, List.getElem_toArray, List.getElem_cons_zero, List.setIfInBounds_toArray, List.set_cons_zero, List.set_cons_succ]
  refine wpAnyH_take (i := 1) (v := ?_) rfl (by kernel_rfl) (by kernel_rfl) (by kernel_rfl) (fun _ _ _ h => h) (Or.inl ⟨by rfl, ?_⟩) (by assumption) ?_
  rotate_left
  · intro wy hSw
    obtain ⟨hS0, hS1⟩ := hSw
    go_simp
    try with_reducible rfl
  try simp only [Act.put, List.getElem_toArray, List.getElem_cons_succ, List.getElem_cons_zero, List.setIfInBounds_toArray, List.set_cons_zero, List.set_cons_succ]
  refine wpAnyH_take (i := 2) (v := ?_) rfl (by kernel_rfl) (by kernel_rfl) (by kernel_rfl) (fun _ _ _ h => h) (Or.inl ⟨by rfl, ?_⟩) (by assumption) ?_
  rotate_left
  · intro wy hSw
    obtain ⟨hS0, hS1⟩ := hSw
    go_simp
    try with_reducible rfl
  try simp only [Act.put, List.getElem_toArray, List.getElem_cons_succ, List.getElem_cons_zero, List.setIfInBounds_toArray, List.set_cons_zero, List.set_cons_succ]
  refine wpAnyH_take (i := 3) (v := ?_) rfl (by kernel_rfl) (by kernel_rfl) (by kernel_rfl) (fun _ _ _ h => h) (Or.inl ⟨by rfl, ?_⟩) (by assumption) ?_
  rotate_left
  · intro wy hSw
    obtain ⟨hS0, hS1⟩ := hSw
    go_simp
    try with_reducible rfl
  try simp only [Act.put, List.getElem_toArray, List.getElem_cons_succ, List.getElem_cons_zero, List.setIfInBounds_toArray, List.set_cons_zero, List.set_cons_succ]
  refine wpAnyH_ready (rs := [4]) (by kernel_rfl) (by simp) ?_
  refine AllReadyH.cons rfl (fun K hK => ?_) AllReadyH.nil
  go_simp
  have HCP := hide (ownCopyPileI_any (some ⟨g, 0, none⟩) P.length cap Z wd (by have hr := (Gnd.recs (unhide HG) hc1 (by unfold maxLen; omega)); exact hr) (by omega))
  refine (unhide HCP).mono ?_
  rintro e w6 ⟨rfl, ho6, hb⟩
  have hwl := (unhide HA).lt
  have hgn := hb.size
  replace HG := hide ((unhide HG).below hb)
  replace HB := hide ((unhide HB).step hb)
  replace HA := hide ((unhide HA).step hb)
  replace HW := hide (Below.step (unhide HW) hb)
  clear hb HCP
  obtain ⟨g6, eg6⟩ : ∃ z, z = wd.heap.size := ⟨_, rfl⟩
  rw [← eg6] at ho6 ⊢
  have hg6 : g0 + 1 < g6 := by omega
  have HN : Hid (Gnd w6 g6 Z P) := ⟨ho6, (unhide HG).len, (unhide HG).lnk, (unhide HG).hgt⟩
  clear ho6 eg6 hwl
  refine hK.out _ _ ⟨(unhide HB).cell (i := 0) rfl, (unhide HB).cell (i := 1) rfl⟩ (fun hHeld => ?_)
  clear hK K
  try simp only [Act.put, List.setIfInBounds_toArray, List.set_cons_zero, List.set_cons_succ]
  refine wpAnyH_take (i := 5) (v := ?_) rfl (by kernel_rfl) (by kernel_rfl) (by kernel_rfl) (fun _ _ _ h => h) (Or.inl ⟨by rfl, ?_⟩) (by assumption) ?_
  rotate_left
  · intro wy hSw
    obtain ⟨hS0, hS1⟩ := hSw
    go_simp
    try with_reducible rfl
  try simp only [Act.put, List.getElem_toArray, List.getElem_cons_succ, List.getElem_cons_zero, List.setIfInBounds_toArray, List.set_cons_zero, List.set_cons_succ]
  refine wpAnyH_ready (rs := [6]) (by kernel_rfl) (by simp) ?_
  refine AllReadyH.cons rfl (fun K hK => ?_) AllReadyH.nil
  have rf0 := (unhide HA).frozen 0
  have rf1 := (unhide HA).frozen 1
  have r0 := (unhide HA).cell (i := 0) rfl
  have r1 := (unhide HA).cell (i := 1) rfl
  have HT : Hid (∀ k, k = g0 + 1 → NoLink w6 k) := fun k e => e ▸ noLink_own (unhide HA) (fun q e => by cases e)
  have HA2 := hide (((unhide HA).set 0 (.int .i64 H) (by simp)).set 1 (.slice (some ⟨g6, 0, none⟩) P.length P.length) (by simp))
  have f0 := (unhide HA2).cell (i := 0) rfl
  have f1 := (unhide HA2).cell (i := 1) rfl
  have HKS : Hid (Kept (fun b => b = g0 + 1) w6 ((w6.setCell ⟨g0 + 1, 0, none⟩ (.int .i64 H)).setCell ⟨g0 + 1, 1, none⟩ (.slice (some ⟨g6, 0, none⟩) P.length P.length))) := ((Kept.refl (fun b => b = g0 + 1) _).setCell (p := ⟨g0 + 1, 0, none⟩) rfl _).setCell (p := ⟨g0 + 1, 1, none⟩) rfl _
  have hWB : Below w.heap.size w w6 := unhide HW
  replace HB := hide ((unhide HB).kept (unhide HKS) (by omega))
  go_simp
  refine hK.out _ _ ⟨(unhide HB).cell (i := 0) rfl, (unhide HB).cell (i := 1) rfl⟩ (fun hHeld => ?_)
  clear hK K
  try simp only [Act.put, List.setIfInBounds_toArray, List.set_cons_zero, List.set_cons_succ]
  refine wpAnyH_done (by kernel_rfl) ?_ _
  go_wp2_with fail
  refine bodyPost_ret (v := .agg #[.int .i64 H, .slice (some ⟨g6, 0, none⟩) P.length P.length]) (by simp [results, Try.results81, go_sem, f0, f1]) rfl ?_
  exact ⟨g6, rfl, by omega, (unhide HN).kept (unhide HKS) (by omega) (unhide HT), below_kept hWB (unhide HKS) hWB.size (fun b e => by omega)⟩

set_option maxHeartbeats 1600000 in
theorem withoutT_any (g : Nat) (q : Option Addr) (n : Nat) (x : Int) (w : World) (hl : OwnV w g [.int .i64 x, .pointer q]) (hn : n ≤ 1048576) :
    Calls Try.prog 116 #[plV (some ⟨g, 0, none⟩) (n + 1)] w fun e w' => e = .returned (plV q n) ∧ Below w.heap.size w w' := by
  unfold plV
  have hlt := hl.lt
  have hwr : IntKind.i64.wrap (n : Int) = n := by rw [IntKind.wrap_i64]; omega
  have HL := hide hl
  clear hl
  go_enter Try.func116, Try.ntmps116
  go_upto_region 1 with (fail)
  obtain ⟨g0, eg0⟩ : ∃ z, z = w.heap.size := ⟨_, rfl⟩
  obtain ⟨W, eW⟩ : ∃ z, z = (w.alloc (.cells #[.pointer (some ⟨g, 0, none⟩), .int .i64 ((n : Int) + 1)] 126)).alloc (.cells #[.pointer none, .int .i64 0] 126) := ⟨_, rfl⟩
  have hb : Below w.heap.size w W := by rw [eW]; exact Below.step (Below.alloc1 _ _) (Below.alloc1 _ _)
  have HB : Hid (OwnV W g0 [.pointer (some ⟨g, 0, none⟩), .int .i64 ((n : Int) + 1)]) := by rw [eW, eg0]; exact (ownV_alloc _ _ _).step (Below.alloc1 _ _)
  have HA : Hid (OwnV W (g0 + 1) [.pointer none, .int .i64 0]) := by rw [eW, eg0]; exact own_new _ _ _ _ (by simp)
  rw [← eW, ← eg0]
  have hg0 : w.heap.size ≤ g0 := by omega
  clear eW eg0
  have HW := hide hb
  replace HL := hide ((unhide HL).step hb)
  clear hb
  obtain ⟨wd, ewd⟩ : ∃ z, z = W.drew := ⟨_, rfl⟩
  have hb : Below W.heap.size W wd := by rw [ewd]; exact (Below.refl _ _).drew
  replace HL := hide ((unhide HL).step hb)
  replace HB := hide ((unhide HB).step hb)
  replace HA := hide ((unhide HA).step hb)
  replace HW := hide (Below.step (unhide HW) hb)
  clear hb
  refine wp_region_held_drew (S := fun w' => w'.cell? ⟨g0, 0, none⟩ = some (.pointer (some ⟨g, 0, none⟩)) ∧ w'.cell? ⟨g0, 1, none⟩ = some (.int .i64 ((n : Int) + 1)) ∧ w'.cell? ⟨g, 1, none⟩ = some (.pointer q)) (by kernel_rfl) ⟨by rw [← ewd]; exact (unhide HB).cell (i := 0) rfl, by rw [← ewd]; exact (unhide HB).cell (i := 1) rfl, by rw [← ewd]; exact (unhide HL).cell (i := 1) rfl⟩ (fun hHeld => ?_)
  rw [← ewd] at hHeld ⊢
  clear ewd
  refine wpAnyH_take (i := 0) (v := ?_) rfl (by kernel_rfl) (by kernel_rfl) (by kernel_rfl) (fun _ _ _ h => h) (Or.inl ⟨by rfl, ?_⟩) (by assumption) ?_
  rotate_left
  · intro wy hSw
    obtain ⟨hS0, hS1, hS2⟩ := hSw
    go_simp
    try with_reducible rfl
  try simp only [Act.put, List.getElem_toArray, List.getElem_cons_zero, List.setIfInBounds_toArray, List.set_cons_zero, List.set_cons_succ]
  refine wpAnyH_take (i := 1) (v := ?_) rfl (by kernel_rfl) (by kernel_rfl) (by kernel_rfl) (fun _ _ _ h => h) (Or.inl ⟨by rfl, ?_⟩) (by assumption) ?_
  rotate_left
  · intro wy hSw
    obtain ⟨hS0, hS1, hS2⟩ := hSw
    go_simp
    try with_reducible rfl
  try simp only [Act.put, List.getElem_toArray, List.getElem_cons_succ, List.getElem_cons_zero, List.setIfInBounds_toArray, List.set_cons_zero, List.set_cons_succ]
  refine wpAnyH_take (i := 2) (v := ?_) rfl (by kernel_rfl) (by kernel_rfl) (by kernel_rfl) (fun _ _ _ h => h) (Or.inl ⟨by rfl, ?_⟩) (by assumption) ?_
  rotate_left
  · intro wy hSw
    obtain ⟨hS0, hS1, hS2⟩ := hSw
    go_simp
    try with_reducible rfl
  try simp only [Act.put, List.getElem_toArray, List.getElem_cons_succ, List.getElem_cons_zero, List.setIfInBounds_toArray, List.set_cons_zero, List.set_cons_succ]
  refine wpAnyH_take (i := 3) (v := ?_) rfl (by kernel_rfl) (by kernel_rfl) (by kernel_rfl) (fun _ _ _ h => h) (Or.inl ⟨by rfl, ?_⟩) (by assumption) ?_
  rotate_left
  · intro wy hSw
    obtain ⟨hS0, hS1, hS2⟩ := hSw
    go_simp
    try with_reducible rfl
  try simp only [Act.put, List.getElem_toArray, List.getElem_cons_succ, List.getElem_cons_zero, List.setIfInBounds_toArray, List.set_cons_zero, List.set_cons_succ]
  refine wpAnyH_take (i := 4) (v := ?_) rfl (by kernel_rfl) (by kernel_rfl) (by kernel_rfl) (fun _ _ _ h => h) (Or.inl ⟨by rfl, ?_⟩) (by assumption) ?_
  rotate_left
  · intro wy hSw
    obtain ⟨hS0, hS1, hS2⟩ := hSw
    go_simp
    try with_reducible rfl
  try simp only [Act.put, List.getElem_toArray, List.getElem_cons_succ, List.getElem_cons_zero, List.setIfInBounds_toArray, List.set_cons_zero, List.set_cons_succ]
  refine wpAnyH_take (i := 5) (v := ?_) rfl (by kernel_rfl) (by kernel_rfl) (by kernel_rfl) (fun _ _ _ h => h) (Or.inl ⟨by rfl, ?_⟩) (by assumption) ?_
  rotate_left
  · intro wy hSw
    obtain ⟨hS0, hS1, hS2⟩ := hSw
    go_simp
    try with_reducible rfl
  try simp only [Act.put, List.getElem_toArray, List.getElem_cons_succ, List.getElem_cons_zero, List.setIfInBounds_toArray, List.set_cons_zero, List.set_cons_succ]
  refine wpAnyH_take (i := 6) (v := ?_) rfl (by kernel_rfl) (by kernel_rfl) (by kernel_rfl) (fun _ _ _ h => h) (Or.inl ⟨by rfl, ?_⟩) (by assumption) ?_
  rotate_left
  · intro wy hSw
    obtain ⟨hS0, hS1, hS2⟩ := hSw
    go_simp
    try with_reducible rfl
  try simp only [Act.put, List.getElem_toArray, List.getElem_cons_succ, List.getElem_cons_zero, List.setIfInBounds_toArray, List.set_cons_zero, List.set_cons_succ]
  refine wpAnyH_take (i := 7) (v := ?_) rfl (by kernel_rfl) (by kernel_rfl) (by kernel_rfl) (fun _ _ _ h => h) (Or.inl ⟨by rfl, ?_⟩) (by assumption) ?_
  rotate_left
  · intro wy hSw
    obtain ⟨hS0, hS1, hS2⟩ := hSw
    go_simp
    try with_reducible rfl
  try simp only [Act.put, List.getElem_toArray, List.getElem_cons_succ, List.getElem_cons_zero, List.setIfInBounds_toArray, List.set_cons_zero, List.set_cons_succ]
  refine wpAnyH_take (i := 8) (v := ?_) rfl (by kernel_rfl) (by kernel_rfl) (by kernel_rfl) (fun _ _ _ h => h) (Or.inl ⟨by rfl, ?_⟩) (by assumption) ?_
  rotate_left
  · intro wy hSw
    obtain ⟨hS0, hS1, hS2⟩ := hSw
    go_simp
    try with_reducible rfl
  try simp only [Act.put, List.getElem_toArray, List.getElem_cons_succ, List.getElem_cons_zero, List.setIfInBounds_toArray, List.set_cons_zero, List.set_cons_succ]
  refine wpAnyH_ready (rs := [9]) (by kernel_rfl) (by simp) ?_
  refine AllReadyH.cons rfl (fun K hK => ?_) AllReadyH.nil
  have rf0 := (unhide HA).frozen 0
  have rf1 := (unhide HA).frozen 1
  have r0 := (unhide HA).cell (i := 0) rfl
  have r1 := (unhide HA).cell (i := 1) rfl
  have HA2 := hide (((unhide HA).set 0 (.pointer q) (by simp)).set 1 (.int .i64 (n : Int)) (by simp))
  have f0 := (unhide HA2).cell (i := 0) rfl
  have f1 := (unhide HA2).cell (i := 1) rfl
  have hne : ¬ g = g0 + 1 := by omega
  have HKS : Hid (Kept (fun b => b = g0 + 1) wd ((wd.setCell ⟨g0 + 1, 0, none⟩ (.pointer q)).setCell ⟨g0 + 1, 1, none⟩ (.int .i64 (n : Int)))) := ((Kept.refl (fun b => b = g0 + 1) _).setCell (p := ⟨g0 + 1, 0, none⟩) rfl _).setCell (p := ⟨g0 + 1, 1, none⟩) rfl _
  have hWB : Below w.heap.size w wd := unhide HW
  replace HB := hide ((unhide HB).kept (unhide HKS) (by omega))
  replace HL := hide ((unhide HL).kept (unhide HKS) (by omega))
  go_simp
  refine hK.out _ _ ⟨(unhide HB).cell (i := 0) rfl, (unhide HB).cell (i := 1) rfl, (unhide HL).cell (i := 1) rfl⟩ (fun hHeld => ?_)
  clear hK K
  try simp only [Act.put, List.setIfInBounds_toArray, List.set_cons_zero, List.set_cons_succ]
  refine wpAnyH_done (by kernel_rfl) ?_ _
  go_wp2_with fail
  refine bodyPost_ret (v := .agg #[.pointer q, .int .i64 (n : Int)]) (by simp [results, Try.results116, go_sem, f0, f1]) rfl ?_
  exact ⟨rfl, below_kept hWB (unhide HKS) hWB.size (fun b e => by omega)⟩

set_option maxHeartbeats 1600000 in
theorem ownCopyPileT_any (ar : Option Addr) (m cr : Nat) (Z : List (Option Addr × Nat)) (w : World) (h : RecsIn 2 ePl w (.slice ar m cr) Z) (hm : m ≤ 1048576) :
    Calls Try.prog 99 #[.slice ar m cr] w fun e w' => e = .returned (.slice (some ⟨w.heap.size, 0, none⟩) m m) ∧ OwnV w' w.heap.size (recCells 2 ePl Z) ∧ Below w.heap.size w w' := by
  have hlen : Z.length = m := by
    obtain ⟨ao', cap', e, _⟩ := h
    simp only [Value.slice.injEq] at e
    exact e.2.1.symm
  have hmk := run_make_recs (P := Try.prog) 88 126 _ 2 16 Try.underlying88 Try.infoPileT .i64 .i64 m (by omega) (by omega)
  rw [show (Value.agg #[.pointer none, .int .i64 0]).cells = #[.pointer none, .int .i64 0] from rfl] at hmk
  obtain ⟨Q, eQ⟩ : ∃ Q : Array Value, Q = #[.pointer none, .int .i64 0] := ⟨_, rfl⟩
  rw [← eQ] at hmk
  have hsz : (Try.prog.info? 126).map (·.size) = some 2 := by
    obtain ⟨i0, hi, hzz⟩ := Option.map_eq_some_iff.1 Try.infoPileT
    simp only [Prod.mk.injEq] at hzz
    rw [hi, Option.map_some, hzz.2.1]
  have HSRC := hide (recs_src h)
  have HCS : Hid ((recCells 2 ePl Z).length = m * 2) := by show _ = _; rw [recCells_length, hlen]
  have H1 : Hid (∀ v ∈ recCells 2 ePl Z, v.oneCell' = true) := fun v hv => by
    unfold recCells at hv
    obtain ⟨k, _, rfl⟩ := List.mem_map.1 hv
    unfold ePl
    split <;> rfl
  have A := Below.alloc1 w (.cells (madeCells Q (m * 2)) 126)
  have HW := hide A
  have O := ownV_alloc w (madeCells Q (m * 2)) 126
  have HO := hide O
  have hzl : (madeCells Q (m * 2)).toList.length = m * 2 := by simp [madeCells]
  have HZL := hide hzl
  have HSRC2 : Hid (0 < m → ∃ ad, ar = some ad ∧ ∀ j v, (recCells 2 ePl Z)[j]? = some v → (w.alloc (.cells (madeCells Q (m * 2)) 126)).cell? (ad.add j) = some v) := fun hp => by
    obtain ⟨ad, e, hx⟩ := unhide HSRC hp
    exact ⟨ad, e, fun j v hj => ((A.cell (lt_of_cell (hx j v hj))).trans (hx j v hj))⟩
  obtain ⟨w1, hrun, hO1, hb1⟩ := run_copy_all 88 88 126 2 Try.underlying88 hsz w.heap.size m m ar cr _ _ (unhide HO) (by rw [unhide HZL, unhide HCS]) (unhide HCS) (unhide HSRC2) (unhide H1) w.heap.size w (unhide HW) (Nat.le_refl _)
  have HO1 := hide hO1
  have HW1 := hide hb1
  clear h eQ A O hzl HSRC hsz HO HW HSRC2 H1 HCS HZL hO1 hb1 hlen
  go_enter Try.func99, Try.ntmps99
  go_wp2
  go_ret
  exact ⟨rfl, unhide HO1, unhide HW1⟩

set_option maxHeartbeats 1600000 in
theorem isEmptyT_any (H : Int) (g cap : Nat) (Z : List (Option Addr × Nat)) (P : List (List Int)) (s : Nat) (w : World) (h : Gnd w g Z P) (hs : s < P.length) (_ : P.length ≤ cap) (_ : cap ≤ 1048576) :
    Calls Try.prog 95 #[gndV H g P.length cap, .int .i64 (s : Int)] w fun e w' => e = .returned (.bool (emB P s)) ∧ Below w.heap.size w w' := by
  obtain ⟨n, en⟩ : ∃ n, (P.getD s []).length = n := ⟨_, rfl⟩
  unfold emB
  rw [en]
  have EN := hide en
  clear en
  have hsi : (s : Int) < (P.length : Int) := by omega
  cases n with
  | zero =>
    rw [show decide (0 = 0) = true from rfl]
    have HG := hide h
    clear h
    unfold gndV
    go_enter Try.func95, Try.ntmps95
    go_upto_region 1 with (fail)
    obtain ⟨g0, eg0⟩ : ∃ z, z = w.heap.size := ⟨_, rfl⟩
    have hgl : g < g0 := by rw [eg0]; exact (unhide HG).top.lt
    obtain ⟨W, eW⟩ : ∃ z, z = w.alloc (.cells #[.int .i64 H, .slice (some ⟨g, 0, none⟩) P.length cap] 90) := ⟨_, rfl⟩
    have hb : Below w.heap.size w W := by rw [eW]; exact Below.alloc1 _ _
    have HB : Hid (OwnV W g0 [.int .i64 H, .slice (some ⟨g, 0, none⟩) P.length cap]) := by rw [eW, eg0]; exact ownV_alloc _ _ _
    rw [← eW, ← eg0]
    have hg0 : w.heap.size ≤ g0 := by omega
    clear eW eg0
    have HW := hide hb
    replace HG := hide ((unhide HG).below hb)
    clear hb
    obtain ⟨p0, p1⟩ := (unhide HG).at hs
    rw [unhide EN] at p1
    have b1 := (unhide HB).cell (i := 1) rfl
    go_wp2
    go_ret
    exact ⟨rfl, unhide HW⟩
  | succ n =>
    have e0 : decide (n + 1 = 0) = false := rfl
    rw [e0]
    have HG := hide h
    clear h
    unfold gndV
    go_enter Try.func95, Try.ntmps95
    go_upto_region 1 with (fail)
    obtain ⟨g0, eg0⟩ : ∃ z, z = w.heap.size := ⟨_, rfl⟩
    have hgl : g < g0 := by rw [eg0]; exact (unhide HG).top.lt
    obtain ⟨W, eW⟩ : ∃ z, z = w.alloc (.cells #[.int .i64 H, .slice (some ⟨g, 0, none⟩) P.length cap] 90) := ⟨_, rfl⟩
    have hb : Below w.heap.size w W := by rw [eW]; exact Below.alloc1 _ _
    have HB : Hid (OwnV W g0 [.int .i64 H, .slice (some ⟨g, 0, none⟩) P.length cap]) := by rw [eW, eg0]; exact ownV_alloc _ _ _
    rw [← eW, ← eg0]
    have hg0 : w.heap.size ≤ g0 := by omega
    clear eW eg0
    have HW := hide hb
    replace HG := hide ((unhide HG).below hb)
    clear hb
    obtain ⟨p0, p1⟩ := (unhide HG).at hs
    rw [unhide EN] at p1
    have b1 := (unhide HB).cell (i := 1) rfl
    have e1 : ((((n + 1 : Nat) : Int)) == 0) = false := by simp; omega
    go_wp2
    go_ret
    exact ⟨by simp; try omega, unhide HW⟩

set_option maxHeartbeats 1600000 in
theorem isFullT_any (H : Int) (g cap : Nat) (Z : List (Option Addr × Nat)) (P : List (List Int)) (s : Nat) (w : World) (h : Gnd w g Z P) (hs : s < P.length) (_ : P.length ≤ cap) (_ : cap ≤ 1048576) :
    Calls Try.prog 96 #[gndV H g P.length cap, .int .i64 (s : Int)] w fun e w' => e = .returned (.bool (fuB H P s)) ∧ Below w.heap.size w w' := by
  obtain ⟨n, en⟩ : ∃ n, (P.getD s []).length = n := ⟨_, rfl⟩
  unfold fuB
  rw [en]
  have EN := hide en
  clear en
  have hsi : (s : Int) < (P.length : Int) := by omega
  by_cases hf : H ≤ (n : Int)
  · have e0 : decide (H ≤ (n : Int)) = true := by simpa using hf
    rw [e0]
    have HG := hide h
    clear h
    unfold gndV
    go_enter Try.func96, Try.ntmps96
    go_upto_region 1 with (fail)
    obtain ⟨g0, eg0⟩ : ∃ z, z = w.heap.size := ⟨_, rfl⟩
    have hgl : g < g0 := by rw [eg0]; exact (unhide HG).top.lt
    obtain ⟨W, eW⟩ : ∃ z, z = w.alloc (.cells #[.int .i64 H, .slice (some ⟨g, 0, none⟩) P.length cap] 90) := ⟨_, rfl⟩
    have hb : Below w.heap.size w W := by rw [eW]; exact Below.alloc1 _ _
    have HB : Hid (OwnV W g0 [.int .i64 H, .slice (some ⟨g, 0, none⟩) P.length cap]) := by rw [eW, eg0]; exact ownV_alloc _ _ _
    rw [← eW, ← eg0]
    have hg0 : w.heap.size ≤ g0 := by omega
    clear eW eg0
    have HW := hide hb
    replace HG := hide ((unhide HG).below hb)
    clear hb
    have HP1 : Hid (W.cell? ⟨g, s * 2 + 1, none⟩ = some (.int .i64 (n : Int))) := by rw [← unhide EN]; exact ((unhide HG).at hs).2
    have gt0 := fun x' : Gr W => gr_cell ((unhide HB).cell (i := 0) rfl) x'
    have gt1 := fun x' : Gr W => gr_cell ((unhide HB).cell (i := 1) rfl) x'
    have gt2 := fun x' : Gr W => gr_cell (unhide HP1) x'
    have gsome := gr_some W
    refine wp_region_grown (by kernel_rfl) (by kernel_rfl) ?_
    repeat (go_big_quiet_step (fail))
    refine wpQuiet_nil ?_
    intro wz hw1
    obtain ⟨z', hz⟩ := hw1
    have hb : Below W.heap.size W wz := hz ▸ z'.ok
    clear hz z' gsome gt0 gt1 gt2
    replace HW := hide (Below.step (unhide HW) hb)
    clear hb
    go_wp2
    go_ret
    exact ⟨rfl, unhide HW⟩
  · have e0 : decide (H ≤ (n : Int)) = false := by simpa using hf
    rw [e0]
    have HG := hide h
    clear h
    unfold gndV
    go_enter Try.func96, Try.ntmps96
    go_upto_region 1 with (fail)
    obtain ⟨g0, eg0⟩ : ∃ z, z = w.heap.size := ⟨_, rfl⟩
    have hgl : g < g0 := by rw [eg0]; exact (unhide HG).top.lt
    obtain ⟨W, eW⟩ : ∃ z, z = w.alloc (.cells #[.int .i64 H, .slice (some ⟨g, 0, none⟩) P.length cap] 90) := ⟨_, rfl⟩
    have hb : Below w.heap.size w W := by rw [eW]; exact Below.alloc1 _ _
    have HB : Hid (OwnV W g0 [.int .i64 H, .slice (some ⟨g, 0, none⟩) P.length cap]) := by rw [eW, eg0]; exact ownV_alloc _ _ _
    rw [← eW, ← eg0]
    have hg0 : w.heap.size ≤ g0 := by omega
    clear eW eg0
    have HW := hide hb
    replace HG := hide ((unhide HG).below hb)
    clear hb
    have HP1 : Hid (W.cell? ⟨g, s * 2 + 1, none⟩ = some (.int .i64 (n : Int))) := by rw [← unhide EN]; exact ((unhide HG).at hs).2
    have gt0 := fun x' : Gr W => gr_cell ((unhide HB).cell (i := 0) rfl) x'
    have gt1 := fun x' : Gr W => gr_cell ((unhide HB).cell (i := 1) rfl) x'
    have gt2 := fun x' : Gr W => gr_cell (unhide HP1) x'
    have gsome := gr_some W
    refine wp_region_grown (by kernel_rfl) (by kernel_rfl) ?_
    repeat (go_big_quiet_step (fail))
    refine wpQuiet_nil ?_
    intro wz hw1
    obtain ⟨z', hz⟩ := hw1
    have hb : Below W.heap.size W wz := hz ▸ z'.ok
    clear hz z' gsome gt0 gt1 gt2
    replace HW := hide (Below.step (unhide HW) hb)
    clear hb
    go_wp2
    go_ret
    exact ⟨rfl, unhide HW⟩

set_option maxRecDepth 10000 in
set_option maxHeartbeats 3200000 in
theorem putT_any (H : Int) (g cap : Nat) (Z : List (Option Addr × Nat)) (P : List (List Int)) (x : Int) (s : Nat) (w : World) (h : Gnd w g Z P) (hs : s < P.length) (_ : P.length ≤ cap) (_ : cap ≤ 1048576) (hh : (P.getD s []).length ≤ 1048576) :
    Calls Try.prog 97 #[gndV H g P.length cap, .int .i64 x, .int .i64 (s : Int)] w fun e w' => e = .returned (.tuple #[]) ∧ ∃ Z', Gnd w' g Z' (P.set s (x :: P.getD s [])) ∧ Kept (fun b => b = g) w w' := by
  obtain ⟨row, erow⟩ : ∃ row, P.getD s [] = row := ⟨_, rfl⟩
  rw [erow] at hh ⊢
  have ER := hide erow
  clear erow
  have HG := hide h
  clear h
  unfold gndV
  go_enter Try.func97, Try.ntmps97
  go_upto_region 1 with (fail)
  obtain ⟨g0, eg0⟩ : ∃ z, z = w.heap.size := ⟨_, rfl⟩
  have hgl : g < g0 := by rw [eg0]; exact (unhide HG).top.lt
  obtain ⟨W, eW⟩ : ∃ z, z = w.alloc (.cells #[.int .i64 H, .slice (some ⟨g, 0, none⟩) P.length cap] 90) := ⟨_, rfl⟩
  have hb : Below w.heap.size w W := by rw [eW]; exact Below.alloc1 _ _
  have HB : Hid (OwnV W g0 [.int .i64 H, .slice (some ⟨g, 0, none⟩) P.length cap]) := by rw [eW, eg0]; exact ownV_alloc _ _ _
  rw [← eW, ← eg0]
  have hg0 : w.heap.size ≤ g0 := by omega
  clear eW eg0
  have HW := hide hb
  replace HG := hide ((unhide HG).below hb)
  clear hb
  obtain ⟨n, en⟩ : ∃ n, row.length = n := ⟨_, rfl⟩
  rw [en] at hh
  have EN := hide en
  clear en
  obtain ⟨p, ep⟩ : ∃ p, (Z.getD s default).1 = p := ⟨_, rfl⟩
  have EP := hide ep
  clear ep
  have hsi : (s : Int) < (P.length : Int) := by omega
  obtain ⟨wd, ewd⟩ : ∃ z, z = W.drew := ⟨_, rfl⟩
  have hb : Below W.heap.size W wd := by rw [ewd]; exact (Below.refl _ _).drew
  replace HG := hide ((unhide HG).below hb)
  replace HB := hide ((unhide HB).step hb)
  replace HW := hide (Below.step (unhide HW) hb)
  clear hb
  refine wp_region_held_drew (S := fun w' => w'.cell? ⟨g0, 1, none⟩ = some (.slice (some ⟨g, 0, none⟩) P.length cap)) (by kernel_rfl) (by rw [← ewd]; exact ((unhide HB).cell (i := 1) rfl)) (fun hHeld => ?_)
  rw [← ewd] at hHeld ⊢
  clear ewd
  refine wpAnyH_take (i := 0) (v := ?_) rfl (by kernel_rfl) (by kernel_rfl) (by kernel_rfl) (fun _ _ _ h => h) (Or.inl ⟨by rfl, ?_⟩) (by assumption) ?_
  rotate_left
  · intro wy hSw
    have hS0 := hSw
    go_simp
    try with_reducible rfl
  try simp only [Act.put, List.getElem_toArray, List.getElem_cons_zero, List.setIfInBounds_toArray, List.set_cons_zero, List.set_cons_succ]
  refine wpAnyH_take (i := 1) (v := ?_) rfl (by kernel_rfl) (by kernel_rfl) (by kernel_rfl) (fun _ _ _ h => h) (Or.inl ⟨by rfl, ?_⟩) (by assumption) ?_
  rotate_left
  · intro wy hSw
    have hS0 := hSw
    go_simp
    try with_reducible rfl
  try simp only [Act.put, List.getElem_toArray, List.getElem_cons_succ, List.getElem_cons_zero, List.setIfInBounds_toArray, List.set_cons_zero, List.set_cons_succ]
  refine wpAnyH_take (i := 2) (v := ?_) rfl (by kernel_rfl) (by kernel_rfl) (by kernel_rfl) (fun _ _ _ h => h) (Or.inl ⟨by rfl, ?_⟩) (by assumption) ?_
  rotate_left
  · intro wy hSw
    have hS0 := hSw
    go_simp
    try with_reducible rfl
  try simp only [Act.put, List.getElem_toArray, List.getElem_cons_succ, List.getElem_cons_zero, List.setIfInBounds_toArray, List.set_cons_zero, List.set_cons_succ]
  refine wpAnyH_take (i := 3) (v := ?_) rfl (by kernel_rfl) (by kernel_rfl) (by kernel_rfl) (fun _ _ _ h => h) (Or.inl ⟨by rfl, ?_⟩) (by assumption) ?_
  rotate_left
  · intro wy hSw
    have hS0 := hSw
    go_simp
    try with_reducible rfl
  try simp only [Act.put, List.getElem_toArray, List.getElem_cons_succ, List.getElem_cons_zero, List.setIfInBounds_toArray, List.set_cons_zero, List.set_cons_succ]
  refine wpAnyH_take (i := 4) (v := ?_) rfl (by kernel_rfl) (by kernel_rfl) (by kernel_rfl) (fun _ _ _ h => h) (Or.inl ⟨by rfl, ?_⟩) (by assumption) ?_
  rotate_left
  · intro wy hSw
    have hS0 := hSw
    go_simp
    try with_reducible rfl
  try simp only [Act.put, List.getElem_toArray, List.getElem_cons_succ, List.getElem_cons_zero, List.setIfInBounds_toArray, List.set_cons_zero, List.set_cons_succ]
  refine wpAnyH_take (i := 5) (v := ?_) rfl (by kernel_rfl) (by kernel_rfl) (by kernel_rfl) (fun _ _ _ h => h) (Or.inl ⟨by rfl, ?_⟩) (by assumption) ?_
  rotate_left
  · intro wy hSw
    have hS0 := hSw
    go_simp
    try with_reducible rfl
  try simp only [Act.put, List.getElem_toArray, List.getElem_cons_succ, List.getElem_cons_zero, List.setIfInBounds_toArray, List.set_cons_zero, List.set_cons_succ]
  refine wpAnyH_take (i := 6) (v := ?_) rfl (by kernel_rfl) (by kernel_rfl) (by kernel_rfl) (fun _ _ _ h => h) (Or.inl ⟨by rfl, ?_⟩) (by assumption) ?_
  rotate_left
  · intro wy hSw
    have hS0 := hSw
    go_simp
    try with_reducible rfl
  try simp only [Act.put, List.getElem_toArray, List.getElem_cons_succ, List.getElem_cons_zero, List.setIfInBounds_toArray, List.set_cons_zero, List.set_cons_succ]
  refine wpAnyH_take (i := 8) (v := ?_) rfl (by kernel_rfl) (by kernel_rfl) (by kernel_rfl) (fun _ _ _ h => h) (Or.inl ⟨by rfl, ?_⟩) (by assumption) ?_
  rotate_left
  · intro wy hSw
    have hS0 := hSw
    go_simp
    try with_reducible rfl
  try simp only [Act.put, List.getElem_toArray, List.getElem_cons_succ, List.getElem_cons_zero, List.setIfInBounds_toArray, List.set_cons_zero, List.set_cons_succ]
  refine wpAnyH_ready (rs := [7]) (by kernel_rfl) (by simp) ?_
  refine AllReadyH.cons rfl (fun K hK => ?_) AllReadyH.nil
  obtain ⟨p0, p1⟩ := (unhide HG).at hs
  rw [unhide EP] at p0
  rw [unhide ER, unhide EN] at p1
  go_simp
  clear p0 p1
  refine hK.out _ _ hHeld (fun hHeld => ?_)
  clear hK K
  try simp only [Act.put, List.setIfInBounds_toArray, List.set_cons_zero, List.set_cons_succ]
  refine wpAnyH_ready (rs := [9]) (by kernel_rfl) (by simp) ?_
  refine AllReadyH.cons rfl (fun K hK => ?_) AllReadyH.nil
  go_simp
  refine (withT_any p n x _ (by omega)).mono ?_
  rintro e w6 ⟨g5, rfl, ho5, hg5, hb⟩
  replace HG := hide ((unhide HG).below hb)
  replace HB := hide ((unhide HB).step hb)
  replace HW := hide (Below.step (unhide HW) hb)
  clear hb
  have HL5 : Hid (Lnk w6 (x :: row) (some ⟨g5, 0, none⟩)) := ⟨g5, p, rfl, ho5, by have h1 := (unhide HG).lnk s hs; rw [unhide ER, unhide EP] at h1; exact h1⟩
  clear ho5
  refine hK.out _ _ ((unhide HB).cell (i := 1) rfl) (fun hHeld => ?_)
  clear hK K
  try simp only [Act.put, List.setIfInBounds_toArray, List.set_cons_zero, List.set_cons_succ]
  refine wpAnyH_take (i := 10) (v := ?_) rfl (by kernel_rfl) (by kernel_rfl) (by kernel_rfl) (fun _ _ _ h => h) (Or.inl ⟨by rfl, ?_⟩) (by assumption) ?_
  rotate_left
  · intro wy hSw
    have hS0 := hSw
    go_simp
    try with_reducible rfl
  try simp only [Act.put, List.getElem_toArray, List.getElem_cons_succ, List.getElem_cons_zero, List.setIfInBounds_toArray, List.set_cons_zero, List.set_cons_succ]
  refine wpAnyH_ready (rs := [11]) (by kernel_rfl) (by simp) ?_
  refine AllReadyH.cons rfl (fun K hK => ?_) AllReadyH.nil
  obtain ⟨p0, p1⟩ := (unhide HG).at hs
  rw [unhide EP] at p0
  rw [unhide ER, unhide EN] at p1
  have fr0 := (unhide HG).top.frozen (s * 2)
  have fr1 := (unhide HG).top.frozen (s * 2 + 1)
  have HN := hide ((unhide HG).put hs (unhide HL5))
  have e5 : (x :: row).length = n + 1 := by rw [List.length_cons, unhide EN]
  rw [e5] at HN
  have HKS : Hid (Kept (fun b => b = g) w6 ((w6.setCell ⟨g, s * 2, none⟩ (.pointer (some ⟨g5, 0, none⟩))).setCell ⟨g, s * 2 + 1, none⟩ (.int .i64 ((n + 1 : Nat) : Int)))) := ((Kept.refl (fun b => b = g) _).setCell (p := ⟨g, s * 2, none⟩) rfl _).setCell (p := ⟨g, s * 2 + 1, none⟩) rfl _
  have hWB : Below w.heap.size w w6 := unhide HW
  replace HB := hide ((unhide HB).kept (unhide HKS) (by omega))
  go_simp
  clear p0 p1 fr0 fr1
  refine hK.out _ _ ((unhide HB).cell (i := 1) rfl) (fun hHeld => ?_)
  clear hK K
  try simp only [Act.put, List.setIfInBounds_toArray, List.set_cons_zero, List.set_cons_succ]
  refine wpAnyH_done (by kernel_rfl) ?_ _
  go_wp2_with fail
  go_end0
  exact ⟨rfl, _, unhide HN, (kept_of_below hWB).trans (unhide HKS)⟩

set_option maxRecDepth 10000 in
set_option maxHeartbeats 3200000 in
theorem liftT_any (H : Int) (g cap : Nat) (Z : List (Option Addr × Nat)) (P : List (List Int)) (x : Int) (xs : List Int) (s : Nat) (w : World) (h : Gnd w g Z P) (hs : s < P.length) (_ : P.length ≤ cap) (_ : cap ≤ 1048576) (hx : P.getD s [] = x :: xs) (hh : xs.length ≤ 1048576) :
    Calls Try.prog 98 #[gndV H g P.length cap, .int .i64 (s : Int)] w fun e w' => e = .returned (.int .i64 x) ∧ ∃ Z', Gnd w' g Z' (P.set s xs) ∧ Kept (fun b => b = g) w w' := by
  have HG := hide h
  clear h
  unfold gndV
  go_enter Try.func98, Try.ntmps98
  go_upto_region 1 with (fail)
  obtain ⟨g0, eg0⟩ : ∃ z, z = w.heap.size := ⟨_, rfl⟩
  have hgl : g < g0 := by rw [eg0]; exact (unhide HG).top.lt
  obtain ⟨W, eW⟩ : ∃ z, z = w.alloc (.cells #[.int .i64 H, .slice (some ⟨g, 0, none⟩) P.length cap] 90) := ⟨_, rfl⟩
  have hb : Below w.heap.size w W := by rw [eW]; exact Below.alloc1 _ _
  have HB : Hid (OwnV W g0 [.int .i64 H, .slice (some ⟨g, 0, none⟩) P.length cap]) := by rw [eW, eg0]; exact ownV_alloc _ _ _
  rw [← eW, ← eg0]
  have hg0 : w.heap.size ≤ g0 := by omega
  clear eW eg0
  have HW := hide hb
  replace HG := hide ((unhide HG).below hb)
  clear hb
  have EX := hide hx
  clear hx
  obtain ⟨n, en⟩ : ∃ n, xs.length = n := ⟨_, rfl⟩
  rw [en] at hh
  have EN := hide en
  clear en
  obtain ⟨p, ep⟩ : ∃ p, (Z.getD s default).1 = p := ⟨_, rfl⟩
  have EP := hide ep
  clear ep
  have hL := (unhide HG).lnk s hs
  rw [unhide EP, unhide EX] at hL
  obtain ⟨g2, q, e2, ho, hl⟩ := hL
  subst e2
  have HO := hide ho
  have HLQ := hide hl
  clear ho hl
  have hsi : (s : Int) < (P.length : Int) := by omega
  obtain ⟨p0, p1⟩ := (unhide HG).at hs
  rw [unhide EP] at p0
  rw [unhide EX, List.length_cons, unhide EN] at p1
  have x0 := (unhide HO).cell (i := 0) rfl
  have b1 := (unhide HB).cell (i := 1) rfl
  go_upto_region 2 with (fail)
  clear p0 p1 x0 b1
  obtain ⟨wd, ewd⟩ : ∃ z, z = W.drew := ⟨_, rfl⟩
  have hb : Below W.heap.size W wd := by rw [ewd]; exact (Below.refl _ _).drew
  replace HG := hide ((unhide HG).below hb)
  replace HB := hide ((unhide HB).step hb)
  replace HO := hide ((unhide HO).step hb)
  replace HLQ := hide ((unhide HLQ).below hb)
  replace HW := hide (Below.step (unhide HW) hb)
  clear hb
  refine wp_region_held_drew (S := fun w' => w'.cell? ⟨g0, 1, none⟩ = some (.slice (some ⟨g, 0, none⟩) P.length cap)) (by kernel_rfl) (by rw [← ewd]; exact ((unhide HB).cell (i := 1) rfl)) (fun hHeld => ?_)
  rw [← ewd] at hHeld ⊢
  clear ewd
  refine wpAnyH_take (i := 0) (v := ?_) rfl (by kernel_rfl) (by kernel_rfl) (by kernel_rfl) (fun _ _ _ h => h) (Or.inl ⟨by rfl, ?_⟩) (by assumption) ?_
  rotate_left
  · intro wy hSw
    have hS0 := hSw
    go_simp
    try with_reducible rfl
  try simp only [Act.put, List.getElem_toArray, List.getElem_cons_zero, List.setIfInBounds_toArray, List.set_cons_zero, List.set_cons_succ]
  refine wpAnyH_take (i := 1) (v := ?_) rfl (by kernel_rfl) (by kernel_rfl) (by kernel_rfl) (fun _ _ _ h => h) (Or.inl ⟨by rfl, ?_⟩) (by assumption) ?_
  rotate_left
  · intro wy hSw
    have hS0 := hSw
    go_simp
    try with_reducible rfl
  try simp only [Act.put, List.getElem_toArray, List.getElem_cons_succ, List.getElem_cons_zero, List.setIfInBounds_toArray, List.set_cons_zero, List.set_cons_succ]
  refine wpAnyH_take (i := 2) (v := ?_) rfl (by kernel_rfl) (by kernel_rfl) (by kernel_rfl) (fun _ _ _ h => h) (Or.inl ⟨by rfl, ?_⟩) (by assumption) ?_
  rotate_left
  · intro wy hSw
    have hS0 := hSw
    go_simp
    try with_reducible rfl
  try simp only [Act.put, List.getElem_toArray, List.getElem_cons_succ, List.getElem_cons_zero, List.setIfInBounds_toArray, List.set_cons_zero, List.set_cons_succ]
  refine wpAnyH_take (i := 3) (v := ?_) rfl (by kernel_rfl) (by kernel_rfl) (by kernel_rfl) (fun _ _ _ h => h) (Or.inl ⟨by rfl, ?_⟩) (by assumption) ?_
  rotate_left
  · intro wy hSw
    have hS0 := hSw
    go_simp
    try with_reducible rfl
  try simp only [Act.put, List.getElem_toArray, List.getElem_cons_succ, List.getElem_cons_zero, List.setIfInBounds_toArray, List.set_cons_zero, List.set_cons_succ]
  refine wpAnyH_take (i := 4) (v := ?_) rfl (by kernel_rfl) (by kernel_rfl) (by kernel_rfl) (fun _ _ _ h => h) (Or.inl ⟨by rfl, ?_⟩) (by assumption) ?_
  rotate_left
  · intro wy hSw
    have hS0 := hSw
    go_simp
    try with_reducible rfl
  try simp only [Act.put, List.getElem_toArray, List.getElem_cons_succ, List.getElem_cons_zero, List.setIfInBounds_toArray, List.set_cons_zero, List.set_cons_succ]
  refine wpAnyH_take (i := 5) (v := ?_) rfl (by kernel_rfl) (by kernel_rfl) (by kernel_rfl) (fun _ _ _ h => h) (Or.inl ⟨by rfl, ?_⟩) (by assumption) ?_
  rotate_left
  · intro wy hSw
    have hS0 := hSw
    go_simp
    try with_reducible rfl
  try simp only [Act.put, List.getElem_toArray, List.getElem_cons_succ, List.getElem_cons_zero, List.setIfInBounds_toArray, List.set_cons_zero, List.set_cons_succ]
  refine wpAnyH_take (i := 6) (v := ?_) rfl (by kernel_rfl) (by kernel_rfl) (by kernel_rfl) (fun _ _ _ h => h) (Or.inl ⟨by rfl, ?_⟩) (by assumption) ?_
  rotate_left
  · intro wy hSw
    have hS0 := hSw
    go_simp
    try with_reducible rfl
  try simp only [Act.put, List.getElem_toArray, List.getElem_cons_succ, List.getElem_cons_zero, List.setIfInBounds_toArray, List.set_cons_zero, List.set_cons_succ]
  refine wpAnyH_ready (rs := [7]) (by kernel_rfl) (by simp) ?_
  refine AllReadyH.cons rfl (fun K hK => ?_) AllReadyH.nil
  obtain ⟨p0, p1⟩ := (unhide HG).at hs
  rw [unhide EP] at p0
  rw [unhide EX, List.length_cons, unhide EN] at p1
  go_simp
  clear p0 p1
  refine hK.out _ _ hHeld (fun hHeld => ?_)
  clear hK K
  try simp only [Act.put, List.setIfInBounds_toArray, List.set_cons_zero, List.set_cons_succ]
  refine wpAnyH_ready (rs := [8]) (by kernel_rfl) (by simp) ?_
  refine AllReadyH.cons rfl (fun K hK => ?_) AllReadyH.nil
  go_simp
  have HQW := hide (withoutT_any g2 q n x wd (unhide HO) (by omega))
  unfold plV at HQW
  refine (unhide HQW).mono ?_
  rintro e w6 ⟨rfl, hb⟩
  replace HG := hide ((unhide HG).below hb)
  replace HB := hide ((unhide HB).step hb)
  replace HLQ := hide ((unhide HLQ).below hb)
  replace HW := hide (Below.step (unhide HW) hb)
  clear hb HQW
  refine hK.out _ _ ((unhide HB).cell (i := 1) rfl) (fun hHeld => ?_)
  clear hK K
  try simp only [Act.put, List.setIfInBounds_toArray, List.set_cons_zero, List.set_cons_succ]
  refine wpAnyH_take (i := 9) (v := ?_) rfl (by kernel_rfl) (by kernel_rfl) (by kernel_rfl) (fun _ _ _ h => h) (Or.inl ⟨by rfl, ?_⟩) (by assumption) ?_
  rotate_left
  · intro wy hSw
    have hS0 := hSw
    go_simp
    try with_reducible rfl
  try simp only [Act.put, List.getElem_toArray, List.getElem_cons_succ, List.getElem_cons_zero, List.setIfInBounds_toArray, List.set_cons_zero, List.set_cons_succ]
  refine wpAnyH_ready (rs := [10]) (by kernel_rfl) (by simp) ?_
  refine AllReadyH.cons rfl (fun K hK => ?_) AllReadyH.nil
  obtain ⟨p0, p1⟩ := (unhide HG).at hs
  rw [unhide EP] at p0
  rw [unhide EX, List.length_cons, unhide EN] at p1
  have fr0 := (unhide HG).top.frozen (s * 2)
  have fr1 := (unhide HG).top.frozen (s * 2 + 1)
  have HN := hide ((unhide HG).put hs (unhide HLQ))
  rw [unhide EN] at HN
  have HKS : Hid (Kept (fun b => b = g) w6 ((w6.setCell ⟨g, s * 2, none⟩ (.pointer q)).setCell ⟨g, s * 2 + 1, none⟩ (.int .i64 (n : Int)))) := ((Kept.refl (fun b => b = g) _).setCell (p := ⟨g, s * 2, none⟩) rfl _).setCell (p := ⟨g, s * 2 + 1, none⟩) rfl _
  have hWB : Below w.heap.size w w6 := unhide HW
  replace HB := hide ((unhide HB).kept (unhide HKS) (by omega))
  go_simp
  clear p0 p1 fr0 fr1
  refine hK.out _ _ ((unhide HB).cell (i := 1) rfl) (fun hHeld => ?_)
  clear hK K
  try simp only [Act.put, List.setIfInBounds_toArray, List.set_cons_zero, List.set_cons_succ]
  refine wpAnyH_done (by kernel_rfl) ?_ _
  go_wp2
  go_ret
  exact ⟨rfl, _, unhide HN, (kept_of_below hWB).trans (unhide HKS)⟩

set_option maxRecDepth 10000 in
set_option maxHeartbeats 3200000 in
theorem ownT_any (H : Int) (g cap : Nat) (Z : List (Option Addr × Nat)) (P : List (List Int)) (w : World) (h : Gnd w g Z P) (hc1 : P.length ≤ cap) (hc2 : cap ≤ 1048576) :
    Calls Try.prog 63 #[gndV H g P.length cap] w fun e w' => ∃ g', e = .returned (gndV H g' P.length P.length) ∧ w.heap.size ≤ g' ∧ Gnd w' g' Z P ∧ Below w.heap.size w w' := by
  have HG := hide h
  clear h
  unfold gndV
  go_enter Try.func63, Try.ntmps63
  go_upto_region 1 with (fail)
  obtain ⟨g0, eg0⟩ : ∃ z, z = w.heap.size := ⟨_, rfl⟩
  obtain ⟨W, eW⟩ : ∃ z, z = (w.alloc (.cells #[.int .i64 H, .slice (some ⟨g, 0, none⟩) P.length cap] 90)).alloc (.cells #[.int .i64 0, .slice none 0 0] 90) := ⟨_, rfl⟩
  have hb : Below w.heap.size w W := by rw [eW]; exact Below.step (Below.alloc1 _ _) (Below.alloc1 _ _)
  have HB : Hid (OwnV W g0 [.int .i64 H, .slice (some ⟨g, 0, none⟩) P.length cap]) := by rw [eW, eg0]; exact (ownV_alloc _ _ _).step (Below.alloc1 _ _)
  have HA : Hid (OwnV W (g0 + 1) [.int .i64 0, .slice none 0 0]) := by rw [eW, eg0]; exact own_new _ _ _ _ (by simp)
  rw [← eW, ← eg0]
  have hg0 : w.heap.size ≤ g0 := by omega
  clear eW eg0
  have HW := hide hb
  replace HG := hide ((unhide HG).below hb)
  clear hb
  obtain ⟨wd, ewd⟩ : ∃ z, z = W.drew := ⟨_, rfl⟩
  have hb : Below W.heap.size W wd := by rw [ewd]; exact (Below.refl _ _).drew
  replace HG := hide ((unhide HG).below hb)
  replace HB := hide ((unhide HB).step hb)
  replace HA := hide ((unhide HA).step hb)
  replace HW := hide (Below.step (unhide HW) hb)
  clear hb
  refine wp_region_held_drew (S := fun w' => w'.cell? ⟨g0, 0, none⟩ = some (.int .i64 H) ∧ w'.cell? ⟨g0, 1, none⟩ = some (.slice (some ⟨g, 0, none⟩) P.length cap)) (by kernel_rfl) ⟨by rw [← ewd]; exact (unhide HB).cell (i := 0) rfl, by rw [← ewd]; exact (unhide HB).cell (i := 1) rfl⟩ (fun hHeld => ?_)
  rw [← ewd] at hHeld ⊢
  clear ewd
  refine wpAnyH_take (i := 0) (v := ?_) rfl (by kernel_rfl) (by kernel_rfl) (by kernel_rfl) (fun _ _ _ h => h) (Or.inl ⟨by rfl, ?_⟩) (by assumption) ?_
  rotate_left
  · intro wy hSw
    obtain ⟨hS0, hS1⟩ := hSw
    go_simp
    try with_reducible rfl
  try simp only [Act.put, List.getElem_toArray, List.getElem_cons_zero, List.setIfInBounds_toArray, List.set_cons_zero, List.set_cons_succ]
  refine wpAnyH_take (i := 1) (v := ?_) rfl (by kernel_rfl) (by kernel_rfl) (by kernel_rfl) (fun _ _ _ h => h) (Or.inl ⟨by rfl, ?_⟩) (by assumption) ?_
  rotate_left
  · intro wy hSw
    obtain ⟨hS0, hS1⟩ := hSw
    go_simp
    try with_reducible rfl
  try simp only [Act.put, List.getElem_toArray, List.getElem_cons_succ, List.getElem_cons_zero, List.setIfInBounds_toArray, List.set_cons_zero, List.set_cons_succ]
  refine wpAnyH_take (i := 2) (v := ?_) rfl (by kernel_rfl) (by kernel_rfl) (by kernel_rfl) (fun _ _ _ h => h) (Or.inl ⟨by rfl, ?_⟩) (by assumption) ?_
  rotate_left
  · intro wy hSw
    obtain ⟨hS0, hS1⟩ := hSw
    go_simp
    try with_reducible rfl
  try simp only [Act.put, List.getElem_toArray, List.getElem_cons_succ, List.getElem_cons_zero, List.setIfInBounds_toArray, List.set_cons_zero, List.set_cons_succ]
  refine wpAnyH_take (i := 3) (v := ?_) rfl (by kernel_rfl) (by kernel_rfl) (by kernel_rfl) (fun _ _ _ h => h) (Or.inl ⟨by rfl, ?_⟩) (by assumption) ?_
  rotate_left
  · intro wy hSw
    obtain ⟨hS0, hS1⟩ := hSw
    go_simp
    try with_reducible rfl
  try simp only [Act.put, List.getElem_toArray, List.getElem_cons_succ, List.getElem_cons_zero, List.setIfInBounds_toArray, List.set_cons_zero, List.set_cons_succ]
  refine wpAnyH_ready (rs := [4]) (by kernel_rfl) (by simp) ?_
  refine AllReadyH.cons rfl (fun K hK => ?_) AllReadyH.nil
  go_simp
  have HCP := hide (ownCopyPileT_any (some ⟨g, 0, none⟩) P.length cap Z wd (by have hr := (Gnd.recs (unhide HG) hc1 (by unfold maxLen; omega)); exact hr) (by omega))
  refine (unhide HCP).mono ?_
  rintro e w6 ⟨rfl, ho6, hb⟩
  have hwl := (unhide HA).lt
  have hgn := hb.size
  replace HG := hide ((unhide HG).below hb)
  replace HB := hide ((unhide HB).step hb)
  replace HA := hide ((unhide HA).step hb)
  replace HW := hide (Below.step (unhide HW) hb)
  clear hb HCP
  obtain ⟨g6, eg6⟩ : ∃ z, z = wd.heap.size := ⟨_, rfl⟩
  rw [← eg6] at ho6 ⊢
  have hg6 : g0 + 1 < g6 := by omega
  have HN : Hid (Gnd w6 g6 Z P) := ⟨ho6, (unhide HG).len, (unhide HG).lnk, (unhide HG).hgt⟩
  clear ho6 eg6 hwl
  refine hK.out _ _ ⟨(unhide HB).cell (i := 0) rfl, (unhide HB).cell (i := 1) rfl⟩ (fun hHeld => ?_)
  clear hK K
  try simp only [Act.put, List.setIfInBounds_toArray, List.set_cons_zero, List.set_cons_succ]
  refine wpAnyH_take (i := 5) (v := ?_) rfl (by kernel_rfl) (by kernel_rfl) (by kernel_rfl) (fun _ _ _ h => h) (Or.inl ⟨by rfl, ?_⟩) (by assumption) ?_
  rotate_left
  · intro wy hSw
    obtain ⟨hS0, hS1⟩ := hSw
    go_simp
    try with_reducible rfl
  try simp only [Act.put, List.getElem_toArray, List.getElem_cons_succ, List.getElem_cons_zero, List.setIfInBounds_toArray, List.set_cons_zero, List.set_cons_succ]
  refine wpAnyH_ready (rs := [6]) (by kernel_rfl) (by simp) ?_
  refine AllReadyH.cons rfl (fun K hK => ?_) AllReadyH.nil
  have rf0 := (unhide HA).frozen 0
  have rf1 := (unhide HA).frozen 1
  have r0 := (unhide HA).cell (i := 0) rfl
  have r1 := (unhide HA).cell (i := 1) rfl
  have HT : Hid (∀ k, k = g0 + 1 → NoLink w6 k) := fun k e => e ▸ noLink_own (unhide HA) (fun q e => by cases e)
  have HA2 := hide (((unhide HA).set 0 (.int .i64 H) (by simp)).set 1 (.slice (some ⟨g6, 0, none⟩) P.length P.length) (by simp))
  have f0 := (unhide HA2).cell (i := 0) rfl
  have f1 := (unhide HA2).cell (i := 1) rfl
  have HKS : Hid (Kept (fun b => b = g0 + 1) w6 ((w6.setCell ⟨g0 + 1, 0, none⟩ (.int .i64 H)).setCell ⟨g0 + 1, 1, none⟩ (.slice (some ⟨g6, 0, none⟩) P.length P.length))) := ((Kept.refl (fun b => b = g0 + 1) _).setCell (p := ⟨g0 + 1, 0, none⟩) rfl _).setCell (p := ⟨g0 + 1, 1, none⟩) rfl _
  have hWB : Below w.heap.size w w6 := unhide HW
  replace HB := hide ((unhide HB).kept (unhide HKS) (by omega))
  go_simp
  refine hK.out _ _ ⟨(unhide HB).cell (i := 0) rfl, (unhide HB).cell (i := 1) rfl⟩ (fun hHeld => ?_)
  clear hK K
  try simp only [Act.put, List.setIfInBounds_toArray, List.set_cons_zero, List.set_cons_succ]
  refine wpAnyH_done (by kernel_rfl) ?_ _
  go_wp2_with fail
  refine bodyPost_ret (v := .agg #[.int .i64 H, .slice (some ⟨g6, 0, none⟩) P.length P.length]) (by simp [results, Try.results63, go_sem, f0, f1]) rfl ?_
  exact ⟨g6, rfl, by omega, (unhide HN).kept (unhide HKS) (by omega) (unhide HT), below_kept hWB (unhide HKS) hWB.size (fun b e => by omega)⟩

end Go.Proofs.Ytdiifkeebgdfkaa
