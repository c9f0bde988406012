/- The specification's CargoStep, kind 2. Written by wip/mkcgn.py. -/
import Derived.Test.YtfokocpdngokfaaCgN0
namespace Go.Proofs.Ytfokocpdngokfaa
open Go.RowKit

set_option maxRecDepth 100000 in
set_option maxHeartbeats 16000000 in
theorem specStep2_any (ao : Option Addr) (cap : Nat) (L : List CargoTankT) (A : Nat) (b m lean : Int) (w : World) (h : RCargoTank w (.slice ao L.length cap) L) (hn : L.length ≤ 1048576) (hOK : cgOk L 2 (A : Int) b m lean = true) :
    Calls Try.prog 22 #[.slice ao L.length cap, vCargoOp 2 (A : Int) b m, .int .i64 lean] w (StepAns L 2 (A : Int) b m lean w) := by
  have HV := hide h
  obtain ⟨-, -, -, hl, hm, -⟩ := h
  have hOK' := hOK
  unfold cgOk at hOK'
  simp only [Bool.and_eq_true] at hOK'
  obtain ⟨⟨ht, ho⟩, hlb⟩ := hOK'
  have hTk := tksB_iff.1 ht
  have hop := cgOp_parts ho
  have hl1 := hTk.1
  have hl12 := hTk.2.1
  have hAL : A < L.length := by have := hop.an; omega
  have hm1 := hop.m1
  have hm2 := hop.mm
  have hmb := hop.mb
  have QT := hide fun W hW => specTanksOk_any (.slice ao L.length cap) L W ((unhide HV).below hW)
  rw [ht] at QT
  have QO := hide fun W => l13Op_any ao L.length cap 2 (A : Int) b m W hn
  rw [ho] at QO
  have QL := hide fun W => l1In_any lean 0 100000000 W
  rw [hlb] at QL
  have QLL := hide fun W hW => l13Lean_any (.slice ao L.length cap) L W ((unhide HV).below hW) hl12 hTk.mids
  obtain ⟨x0, x1, x2, x3, x4, ex⟩ : ∃ x0 x1 x2 x3 x4, tkA L A = (x0, x1, x2, x3, x4) := ⟨_, _, _, _, _, rfl⟩
  have hgood := hTk.2.2 A hAL
  rw [ex] at hgood
  have hg' := hgood
  unfold tkGood at hg'
  dsimp only at hg'
  obtain ⟨hx0, hx1, hx2, hx3, hx4, hx5, hx6, hx7, hx8, hx9⟩ := hg'
  have EX := hide ex
  have eC := cgC_ok hOK
  have eLL : cgC L 2 (A : Int) b m lean = 0 → cgL L 2 (A : Int) b m lean = _ := fun h => cgL_ok h
  rw [show (A : Int).toNat = A from rfl] at eC eLL
  have hMd := cgN_mids hTk (k := 2) (a := A) (b := 0) (m := m) ⟨hop.k1, hop.k5, hop.a0, hop.an, hop.m1, hop.mm, hop.mb, fun e => absurd e (by decide), fun e => absurd e (by decide), fun e => absurd e (by decide)⟩

  have eN0 : ∀ b', cgN L 2 A b' m = L.set A (outT (tkA L A) m) := fun b' => rfl
  rw [eN0] at eC eLL hMd
  rw [ex] at eC eLL hMd
  obtain ⟨y0, y1, y2, y3, y4, ey⟩ : ∃ y0 y1 y2 y3 y4, outT (x0, x1, x2, x3, x4) m = (y0, y1, y2, y3, y4) := ⟨_, _, _, _, _, rfl⟩
  rw [ey] at eC eLL hMd
  have ny : tkA (L.set A (y0, y1, y2, y3, y4)) A = (y0, y1, y2, y3, y4) := by rw [tk_set _ hAL, if_pos rfl]
  have HR : Hid (cgC L 2 (A : Int) b m lean = if decide (y0 < 0) = true then 2 else if decide (y1 < y0) = true then 3 else if burB (y0, y1, y2, y3, y4) = true then 4 else if lean < lnV (L.set A (y0, y1, y2, y3, y4)) ∧ lnV L < lnV (L.set A (y0, y1, y2, y3, y4)) then 5 else 0) := by
    show _ = _
    rw [eC]
    unfold cgR
    rw [show dryB (L.set A (y0, y1, y2, y3, y4)) = decide (y0 < 0) from any_set hTk.noDry hAL _, show ovrB (L.set A (y0, y1, y2, y3, y4)) = decide (y1 < y0) from any_set hTk.noOvr hAL _, ny, show decide ((2 : Int) = 3) = false from rfl, Bool.false_and, Bool.or_false]
  obtain ⟨N, eN⟩ : ∃ N, N = L.set A (y0, y1, y2, y3, y4) := ⟨_, rfl⟩
  rw [← eN] at eLL hMd HR
  have HNL : Hid (N.length = L.length) := by show _ = _; rw [eN, List.length_set]
  have HLL := hide eLL
  have HMD := hide hMd
  have EY := hide ey
  have EN := hide eN
  have hz : ∀ z : CargoTankT, A < (L.set A z).length := fun z => by rw [List.length_set]; exact hAL
  have hzt : ∀ z : CargoTankT, tkA (L.set A z) A = z := fun z => by rw [tk_set _ hAL, if_pos rfl]
  have HZT := hide hzt
  have HZL := hide hz
  clear eC eLL hMd eN0 ny eN hz hzt
  obtain ⟨z0, z1, z2, z3, z4, ez⟩ : ∃ z0 z1 z2 z3 z4, outS (x0, x1, x2, x3, x4) m = (z0, z1, z2, z3, z4) := ⟨_, _, _, _, _, rfl⟩
  have hyz : y0 = x0 - m ∧ z0 = x0 - m ∧ z1 = x1 := by
    have ey' := ey
    have ez' := ez
    unfold outS at ez'
    simp only [outT, thT, Prod.mk.injEq] at ey'
    dsimp only at ez'
    by_cases h : m ≤ x0
    · rw [if_pos h] at ez'
      simp only [outT, thT, Prod.mk.injEq] at ez'
      exact ⟨ey'.1.symm, ez'.1.symm, ez'.2.1.symm⟩
    · rw [if_neg h] at ez'
      simp only [Prod.mk.injEq] at ez'
      exact ⟨ey'.1.symm, ez'.1.symm, ez'.2.1.symm⟩
  have HY3 := hide hyz
  clear hyz
  have HYZ : Hid (m ≤ x0 → (z0, z1, z2, z3, z4) = (y0, y1, y2, y3, y4)) := fun h => by
    rw [← ey, ← ez]
    unfold outS
    exact if_pos h
  have EZ := hide ez
  have HTK := hide hTk
  clear hOK ht ho hlb hTk hop ex
  have HN := hide (rowB_new 33 5 eCargoTank (w.alloc (.cells #[.int .i64 2, .int .i64 (A : Int), .int .i64 b, .int .i64 m] 31)) (w.heap.size + 1) (by simp))
  have HW0 := hide (Below.step (Below.alloc1 w (.cells #[.int .i64 2, .int .i64 (A : Int), .int .i64 b, .int .i64 m] 31)) (Below.alloc1 (w.alloc (.cells #[.int .i64 2, .int .i64 (A : Int), .int .i64 b, .int .i64 m] 31)) (.cells #[] 33)))
  have HO0 := hide ((ownV_alloc w #[.int .i64 2, .int .i64 (A : Int), .int .i64 b, .int .i64 m] 31).step (Below.alloc1 (w.alloc (.cells #[.int .i64 2, .int .i64 (A : Int), .int .i64 b, .int .i64 m] 31)) (.cells #[] 33)))
  have HR0 := hide ((unhide HV).below (unhide HW0))
  have hws0 : w.heap.size + 1 ≤ ((w.alloc (.cells #[.int .i64 2, .int .i64 (A : Int), .int .i64 b, .int .i64 m] 31)).alloc (.cells #[] 33)).heap.size := by simp
  simp only [World.size_alloc] at HN
  unfold vCargoOp at QO ⊢
  go_enter Try.func22, Try.ntmps22
  go_upto_region 2 with (at_builtin; go_must (refine wpList_appAll tyTank _ rfl _ _ rfl (w.heap.size + 1) (some ⟨w.heap.size + 1, 0, none⟩) 0 0 [] rfl (unhide HN) hws0 (by omega) ao L.length cap L rfl (unhide HR0) hn ?_); intro sa sc w1 hL hK; have HSM : Hid (RowB 33 5 eCargoTank (w.heap.size + 1) w1 sa (0 + L.length) sc L) := hL; have HW := hide (onRow_belowC (unhide HW0) (unhide HN) (by omega) (by omega) hK); have HO := hide (keptRow (unhide HN) (by omega) hK (unhide HO0)); clear hL hK)
  clear HN HW0 HO0 HR0 hws0
  obtain ⟨g1, e1⟩ : ∃ z, z = w.heap.size := ⟨_, rfl⟩
  rw [← e1] at HO
  rw [show (Value.pointer (some ⟨w.heap.size, 0, none⟩)) = Value.pointer (some ⟨g1, 0, none⟩) by rw [e1]]
  clear e1
  go_wp2_with fail
  refine (unhide QT _ (unhide HW)).mono ?_
  rintro e w2 ⟨rfl, hb⟩
  replace HW := hide (Below.step (unhide HW) hb)
  replace HO := hide ((unhide HO).step hb)
  replace HSM := hide ((unhide HSM).below hb)
  clear hb QT
  have c0 := (unhide HO).cell (i := 0) rfl
  have c1 := (unhide HO).cell (i := 1) rfl
  have c2 := (unhide HO).cell (i := 2) rfl
  have c3 := (unhide HO).cell (i := 3) rfl
  go_wp2_with fail
  refine (unhide QO _).mono ?_
  rintro e w4 ⟨rfl, hb⟩
  replace HW := hide (Below.step (unhide HW) hb)
  replace HO := hide ((unhide HO).step hb)
  replace HSM := hide ((unhide HSM).below hb)
  clear hb QO c0 c1 c2 c3
  go_wp2_with fail
  refine (unhide QL _).mono ?_
  rintro e w9 ⟨rfl, h9⟩
  have h8 := h9.symm
  subst h8
  clear h9 QL
  have HN := hide (rowB_new 33 5 eCargoTank w4 w4.heap.size (Nat.le_refl _))
  have hba := Below.alloc1 w4 (.cells #[] 33)
  have HW0 := hide (Below.step (unhide HW) hba)
  have HO0 := hide ((unhide HO).step hba)
  have HSM0 := hide ((unhide HSM).below hba)
  have HR0 := hide ((unhide HV).below (unhide HW0))
  have hws0 : w4.heap.size ≤ (w4.alloc (.cells #[] 33)).heap.size := by simp
  have hws1 := (unhide HW).size
  have hgl := (unhide HO).lt
  have hsl : ∀ g, sa = some ⟨g, 0, none⟩ → g < w4.heap.size := fun g e => by
    rcases (unhide HSM).parts (by decide) with ⟨e', _⟩ | ⟨g', e', _, hg', _⟩
    · rw [e] at e'; cases e'
    · rw [e] at e'; simp only [Option.some.injEq, Addr.mk.injEq, and_true] at e'; omega
  have HSL := hide hsl
  clear hba HW HO HSM hsl
  go_upto_region 5 with (at_builtin; go_must (refine wpList_appAll tyTank _ rfl _ _ rfl w4.heap.size (some ⟨w4.heap.size, 0, none⟩) 0 0 [] rfl (unhide HN) hws0 (by omega) ao L.length cap L rfl (unhide HR0) hn ?_); intro oa oc w5 hL hK; have HOUT : Hid (RowB 33 5 eCargoTank w4.heap.size w5 oa (0 + L.length) oc L) := hL; have HW := hide (onRow_belowC (unhide HW0) (unhide HN) hws1 (by omega) hK); have HO := hide (keptRow (unhide HN) hgl hK (unhide HO0)); have HSM := hide ((unhide HSM0).kept hK (fun g e _ _ e' => by have := unhide HSL g e; simp only [Option.some.injEq, Addr.mk.injEq, and_true] at e'; omega)); clear hL hK)
  clear HN HW0 HO0 HSM0 HR0 hws0
  rcases (unhide HOUT).parts (by decide) with ⟨-, h0, -⟩ | ⟨go, rfl, hgo, hgo', hoc, hom, hro⟩
  · exfalso; omega
  have HRO := hide hro
  have c1 := (unhide HO).cell (i := 1) rfl
  clear hro HOUT
  go_upto_region 6 with (fail)
  have hb5 := Below.alloc1 w5 (.cells #[.int .i64 (A : Int)] 3)
  obtain ⟨gn, egn⟩ : ∃ z, z = w5.heap.size := ⟨_, rfl⟩
  have HG : Hid (G5 w (w5.alloc (.cells #[.int .i64 (A : Int)] 3)) g1 go gn [.int .i64 2, .int .i64 (A : Int), .int .i64 b, .int .i64 m] sa (0 + L.length) sc L L [.int .i64 (A : Int)]) := ⟨Below.step (unhide HW) hb5, (unhide HO).step hb5, (unhide HSM).below hb5, (unhide HRO).step hb5, by rw [egn]; exact ownV_alloc w5 #[.int .i64 (A : Int)] 3⟩
  have HA5 : Hid (A5 w g1 go gn sa) := ⟨by omega, by omega, by omega, fun g e => by have := unhide HSL g e; omega⟩
  obtain ⟨w6, e6⟩ : ∃ z, z = w5.alloc (.cells #[.int .i64 (A : Int)] 3) := ⟨_, rfl⟩
  rw [← e6] at HG ⊢
  rw [← egn]
  have hwo : w.heap.size ≤ go := by omega
  have hAO : A < L.length := hAL
  have hAi : (A : Int) < L.length := by omega
  clear hb5 egn e6 HW HO HSM HRO c1 hgo hgo' hgl hws1 HSL
  have c0 := (unhide HG).o.cell (i := 0) rfl
  have c1 := (unhide HG).o.cell (i := 1) rfl
  have c2 := (unhide HG).o.cell (i := 2) rfl
  have c3 := (unhide HG).o.cell (i := 3) rfl
  obtain ⟨ct0, ct1, ct2, ct3, ct4⟩ := (unhide HG).cells hAO (unhide EX)
  have cf0 := (unhide HG).r.frozen (A * 5)
  have cf1 := (unhide HG).r.frozen (A * 5 + 1)
  have cf2 := (unhide HG).r.frozen (A * 5 + 2)
  have cf3 := (unhide HG).r.frozen (A * 5 + 3)
  have cf4 := (unhide HG).r.frozen (A * 5 + 4)
  go_upto_region 14 with (fail)
  have QI := hide fun W => l13Out_any x0 x1 x2 x3 x4 m W hgood hm1 hm2 z0 z1 z2 z3 z4 ez
  unfold vCargoTank at QI
  clear ey ez
  clear c0 c1 c2 c3 ct0 ct1 ct2 ct3 ct4 cf0 cf1 cf2 cf3 cf4
  rw [inBlock_then]
  go_cut [] (fun wx => Hid (G5 w wx g1 go gn [.int .i64 2, .int .i64 (A : Int), .int .i64 b, .int .i64 m] sa (0 + L.length) sc L (L.set A (z0, z1, z2, z3, z4)) [.int .i64 (A : Int)]))
  case first =>
    have hd : Below w6.heap.size w6 w6.drew := (Below.refl _ _).drew
    replace HG := hide ((unhide HG).step hd)
    clear hd
    clear HR HLL HMD QLL HZT HZL
    refine wp_region_held_drew (S := fun w' => w'.cell? ⟨g1, 1, none⟩ = some (.int .i64 (A : Int)) ∧ w'.cell? ⟨g1, 2, none⟩ = some (.int .i64 b) ∧ w'.cell? ⟨g1, 3, none⟩ = some (.int .i64 m)) (by kernel_rfl) ⟨(unhide HG).o.cell (i := 1) rfl, (unhide HG).o.cell (i := 2) rfl, (unhide HG).o.cell (i := 3) rfl⟩ (fun hHeld => ?_)
    refine wpAnyH_take (i := 0) (v := ?_) rfl (by kernel_rfl) (by kernel_rfl) (by kernel_rfl) (fun _ _ _ h => h) (Or.inl ⟨by rfl, ?_⟩) (by assumption) ?_
    rotate_left
    · intro wy hSw
      obtain ⟨hS0, hS1, hS2⟩ := hSw
      go_simp
      try with_reducible rfl
    try simp only [Act.put, List.getElem_toArray, List.getElem_cons_zero, List.setIfInBounds_toArray, List.set_cons_zero, List.set_cons_succ]
    refine wpAnyH_take (i := 1) (v := ?_) rfl (by kernel_rfl) (by kernel_rfl) (by kernel_rfl) (fun _ _ _ h => h) (Or.inl ⟨by rfl, ?_⟩) (by assumption) ?_
    rotate_left
    · intro wy hSw
      obtain ⟨hS0, hS1, hS2⟩ := hSw
      go_simp
      try with_reducible rfl
    try simp only [Act.put, List.getElem_toArray, List.getElem_cons_succ, List.getElem_cons_zero, List.setIfInBounds_toArray, List.set_cons_zero, List.set_cons_succ]
    refine wpAnyH_take (i := 2) (v := ?_) rfl (by kernel_rfl) (by kernel_rfl) (by kernel_rfl) (fun _ _ _ h => h) (Or.inl ⟨by rfl, ?_⟩) (by assumption) ?_
    rotate_left
    · intro wy hSw
      obtain ⟨hS0, hS1, hS2⟩ := hSw
      go_simp
      try with_reducible rfl
    try simp only [Act.put, List.getElem_toArray, List.getElem_cons_succ, List.getElem_cons_zero, List.setIfInBounds_toArray, List.set_cons_zero, List.set_cons_succ]
    refine wpAnyH_take (i := 3) (v := ?_) rfl (by kernel_rfl) (by kernel_rfl) (by kernel_rfl) (fun _ _ _ h => h) (Or.inl ⟨by rfl, ?_⟩) (by assumption) ?_
    rotate_left
    · intro wy hSw
      obtain ⟨hS0, hS1, hS2⟩ := hSw
      go_simp
      try with_reducible rfl
    try simp only [Act.put, List.getElem_toArray, List.getElem_cons_succ, List.getElem_cons_zero, List.setIfInBounds_toArray, List.set_cons_zero, List.set_cons_succ]
    refine wpAnyH_take (i := 4) (v := ?_) rfl (by kernel_rfl) (by kernel_rfl) (by kernel_rfl) (fun _ _ _ h => h) (Or.inl ⟨by rfl, ?_⟩) (by assumption) ?_
    rotate_left
    · intro wy hSw
      obtain ⟨hS0, hS1, hS2⟩ := hSw
      go_simp
      try with_reducible rfl
    try simp only [Act.put, List.getElem_toArray, List.getElem_cons_succ, List.getElem_cons_zero, List.setIfInBounds_toArray, List.set_cons_zero, List.set_cons_succ]
    refine wpAnyH_take (i := 5) (v := ?_) rfl (by kernel_rfl) (by kernel_rfl) (by kernel_rfl) (fun _ _ _ h => h) (Or.inl ⟨by rfl, ?_⟩) (by assumption) ?_
    rotate_left
    · intro wy hSw
      obtain ⟨hS0, hS1, hS2⟩ := hSw
      go_simp
      try with_reducible rfl
    try simp only [Act.put, List.getElem_toArray, List.getElem_cons_succ, List.getElem_cons_zero, List.setIfInBounds_toArray, List.set_cons_zero, List.set_cons_succ]
    refine wpAnyH_take (i := 6) (v := ?_) rfl (by kernel_rfl) (by kernel_rfl) (by kernel_rfl) (fun _ _ _ h => h) (Or.inl ⟨by rfl, ?_⟩) (by assumption) ?_
    rotate_left
    · intro wy hSw
      obtain ⟨hS0, hS1, hS2⟩ := hSw
      go_simp
      try with_reducible rfl
    try simp only [Act.put, List.getElem_toArray, List.getElem_cons_succ, List.getElem_cons_zero, List.setIfInBounds_toArray, List.set_cons_zero, List.set_cons_succ]
    refine wpAnyH_take (i := 8) (v := ?_) rfl (by kernel_rfl) (by kernel_rfl) (by kernel_rfl) (fun _ _ _ h => h) (Or.inl ⟨by rfl, ?_⟩) (by assumption) ?_
    rotate_left
    · intro wy hSw
      obtain ⟨hS0, hS1, hS2⟩ := hSw
      go_simp
      try with_reducible rfl
    try simp only [Act.put, List.getElem_toArray, List.getElem_cons_succ, List.getElem_cons_zero, List.setIfInBounds_toArray, List.set_cons_zero, List.set_cons_succ]
    refine wpAnyH_take (i := 9) (v := ?_) rfl (by kernel_rfl) (by kernel_rfl) (by kernel_rfl) (fun _ _ _ h => h) (Or.inl ⟨by rfl, ?_⟩) (by assumption) ?_
    rotate_left
    · intro wy hSw
      obtain ⟨hS0, hS1, hS2⟩ := hSw
      go_simp
      try with_reducible rfl
    try simp only [Act.put, List.getElem_toArray, List.getElem_cons_succ, List.getElem_cons_zero, List.setIfInBounds_toArray, List.set_cons_zero, List.set_cons_succ]
    obtain ⟨t0, t1, t2, t3, t4⟩ := (unhide HG).cells hAO (unhide EX)
    refine wpAnyH_ready (rs := [7]) (by kernel_rfl) (by simp) ?_
    refine AllReadyH.cons rfl (fun K hK => ?_) AllReadyH.nil
    go_simp
    refine hK.out _ _ hHeld (fun hHeld => ?_)
    clear hK K t0 t1 t2 t3 t4
    try simp only [Act.put, List.setIfInBounds_toArray, List.set_cons_zero, List.set_cons_succ]
    refine wpAnyH_ready (rs := [10]) (by kernel_rfl) (by simp) ?_
    refine AllReadyH.cons rfl (fun K hK => ?_) AllReadyH.nil
    go_simp
    refine (unhide QI _).mono ?_
    rintro e w7 ⟨rfl, hb⟩
    replace HG := hide ((unhide HG).step hb)
    clear hb QI
    refine hK.out _ _ ⟨(unhide HG).o.cell (i := 1) rfl, (unhide HG).o.cell (i := 2) rfl, (unhide HG).o.cell (i := 3) rfl⟩ (fun hHeld => ?_)
    clear hK K
    try simp only [Act.put, List.setIfInBounds_toArray, List.set_cons_zero, List.set_cons_succ]
    refine wpAnyH_take (i := 11) (v := ?_) rfl (by kernel_rfl) (by kernel_rfl) (by kernel_rfl) (fun _ _ _ h => h) (Or.inl ⟨by rfl, ?_⟩) (by assumption) ?_
    rotate_left
    · intro wy hSw
      obtain ⟨hS0, hS1, hS2⟩ := hSw
      go_simp
      try with_reducible rfl
    try simp only [Act.put, List.getElem_toArray, List.getElem_cons_succ, List.getElem_cons_zero, List.setIfInBounds_toArray, List.set_cons_zero, List.set_cons_succ]
    obtain ⟨t0, t1, t2, t3, t4⟩ := (unhide HG).cells hAO (unhide EX)
    have f0 := (unhide HG).r.frozen (A * 5)
    have f1 := (unhide HG).r.frozen (A * 5 + 1)
    have f2 := (unhide HG).r.frozen (A * 5 + 2)
    have f3 := (unhide HG).r.frozen (A * 5 + 3)
    have f4 := (unhide HG).r.frozen (A * 5 + 4)
    refine wpAnyH_ready (rs := [12]) (by kernel_rfl) (by simp) ?_
    refine AllReadyH.cons rfl (fun K hK => ?_) AllReadyH.nil
    replace HG := hide ((unhide HG).put5 (unhide HA5) hAO z0 z1 z2 z3 z4)
    go_simp
    refine hK.out _ _ ⟨(unhide HG).o.cell (i := 1) rfl, (unhide HG).o.cell (i := 2) rfl, (unhide HG).o.cell (i := 3) rfl⟩ (fun hHeld => ?_)
    clear hK K t0 t1 t2 t3 t4 f0 f1 f2 f3 f4
    try simp only [Act.put, List.setIfInBounds_toArray, List.set_cons_zero, List.set_cons_succ]
    refine wpAnyH_done (by kernel_rfl) ?_ _
    go_wp2_with fail
    go_meet
    exact unhide HG
  case rest =>
  clear HG
  have HG := hcut
  clear hcut QI
  try clear NZ
  have NZ := hide (unhide HZT (z0, z1, z2, z3, z4))
  have hAO3 := unhide HZL (z0, z1, z2, z3, z4)
  obtain ⟨t0, t1, t2, t3, t4⟩ := (unhide HG).cells hAO3 (unhide NZ)
  have n0 := (unhide HG).n.cell (i := 0) rfl
  have QB := hide fun W => l13Burns_any z0 z1 z2 z3 z4 W
  unfold vCargoTank at QB
  clear HZT HZL
  go_wp2
  refine wp_loop_rounds 2 ?_
  rw [rounds_succ]
  by_cases hdry : m ≤ x0
  case neg =>
    have d1 : decide (z0 < 0) = true := decide_eq_true (by have := unhide HY3; omega)
    have d2 : decide (z1 < z0) = false := decide_eq_false (by have := unhide HY3; omega)
    have d3 : decide (y0 < 0) = true := decide_eq_true (by have := unhide HY3; omega)
    rw [d3] at HR
    replace HR := hide ((unhide HR).trans (if_pos rfl))
    generalize burB (z0, z1, z2, z3, z4) = bb at *
    go_wp2_with fail
    refine (unhide QB _).mono ?_
    rintro e w8 ⟨rfl, hb⟩
    replace HG := hide ((unhide HG).step (Below.step (Below.alloc1 _ _) hb))
    clear hb QB t0 t1 t2 t3 t4 n0
    go_wp2
    rw [rounds_succ]
    go_wp2
    refine bodyPost_ret (v := .tuple #[.slice sa (0 + L.length) sc, .int .i64 2]) (by simp [results, Try.results22, go_sem]) rfl ?_
    exact stepAns_same (unhide HR) (by decide) (unhide HG).below (unhide HG).s
  have eyz := unhide HYZ hdry
  simp only [Prod.mk.injEq] at eyz
  obtain ⟨e0, e1, e2, e3, e4⟩ := eyz
  subst e0 e1 e2 e3 e4
  have hz00 : 0 ≤ z0 := by have := unhide HY3; omega
  have d2 : decide (z1 < z0) = false := decide_eq_false (by have := unhide HY3; omega)
  clear HY3
  have d1 : decide (z0 < 0) = false := decide_eq_false (by omega)
  rw [d1] at HR
  replace HR := hide ((unhide HR).trans (if_neg (by simp)))
  generalize hbb : burB (z0, z1, z2, z3, z4) = bb at *
  clear hbb
  rw [d2] at HR
  replace HR := hide ((unhide HR).trans (if_neg (by simp)))
  go_wp2_with fail
  refine (unhide QB _).mono ?_
  rintro e w8 ⟨rfl, hb⟩
  replace HG := hide ((unhide HG).step (Below.step (Below.alloc1 _ _) hb))
  clear hb QB t0 t1 t2 t3 t4 n0
  cases bb with
  | true =>
    replace HR := hide ((unhide HR).trans (if_pos rfl))
    go_wp2
    rw [rounds_succ]
    go_wp2
    refine bodyPost_ret (v := .tuple #[.slice sa (0 + L.length) sc, .int .i64 4]) (by simp [results, Try.results22, go_sem]) rfl ?_
    exact stepAns_same (unhide HR) (by decide) (unhide HG).below (unhide HG).s
  | false =>
  replace HR := hide ((unhide HR).trans (if_neg (by simp)))
  go_wp2
  rw [rounds_succ]
  rw [← unhide EN] at HG
  have hrd := fun W (hW : Below w8.heap.size w8 W) => OwnV.recsIn (cap := oc) (L := N) (((unhide HG).r).step hW) (by rw [unhide HNL]; omega) hom
  have QN := hide fun W hW => l13Lean_any (.slice (some ⟨go, 0, none⟩) N.length oc) N W (hrd W hW) (by rw [unhide HNL]; exact hl12) (unhide HMD)
  rw [unhide HNL] at QN
  clear hrd
  have HZ := hide (Below.refl w8.heap.size w8)
  generalize lnV N = nN at *
  generalize lnV L = nL at *
  go_wp2_with fail
  refine (unhide QN _ (unhide HZ)).mono ?_
  rintro e u1 ⟨rfl, hb⟩
  replace HZ := hide (Below.step (unhide HZ) hb)
  clear hb
  by_cases h1 : lean < nN
  · have d1 : decide (lean < nN) = true := decide_eq_true h1
    go_wp2_with fail
    refine (unhide QN _ (unhide HZ)).mono ?_
    rintro e u2 ⟨rfl, hb⟩
    replace HZ := hide (Below.step (unhide HZ) hb)
    clear hb
    have HWZ := hide (Below.step (unhide HG).below (unhide HZ))
    go_wp2_with fail
    refine (unhide QLL _ (unhide HWZ)).mono ?_
    rintro e u3 ⟨rfl, hb⟩
    replace HZ := hide (Below.step (unhide HZ) hb)
    clear hb HWZ
    replace HG := hide ((unhide HG).step (unhide HZ))
    by_cases h2 : nL < nN
    · have d2 : decide (nL < nN) = true := decide_eq_true h2
      replace HR := hide ((unhide HR).trans (if_pos ⟨h1, h2⟩))
      clear QN QLL HZ
      go_wp2
      refine bodyPost_ret (v := .tuple #[.slice sa (0 + L.length) sc, .int .i64 5]) (by simp [results, Try.results22, go_sem]) rfl ?_
      exact stepAns_same (unhide HR) (by decide) (unhide HG).below (unhide HG).s
    · have d2 : decide (nL < nN) = false := decide_eq_false h2
      replace HR := hide ((unhide HR).trans (if_neg (fun h => h2 h.2)))
      clear QN QLL HZ
      go_wp2
      refine bodyPost_ret (v := .tuple #[.slice (some ⟨go, 0, none⟩) (0 + L.length) oc, .int .i64 0]) (by simp [results, Try.results22, go_sem]) rfl ?_
      have hfin := stepAns_done (unhide HR) (unhide HLL (unhide HR)) (unhide HG).below hwo (unhide HG).r (by rw [unhide HNL]; omega) hom
      rw [unhide HNL, ← Nat.zero_add L.length] at hfin
      exact hfin
  · have d1 : decide (lean < nN) = false := decide_eq_false h1
    replace HR := hide ((unhide HR).trans (if_neg (fun h => h1 h.1)))
    replace HG := hide ((unhide HG).step (unhide HZ))
    clear QN QLL HZ
    go_wp2
    refine bodyPost_ret (v := .tuple #[.slice (some ⟨go, 0, none⟩) (0 + L.length) oc, .int .i64 0]) (by simp [results, Try.results22, go_sem]) rfl ?_
    have hfin := stepAns_done (unhide HR) (unhide HLL (unhide HR)) (unhide HG).below hwo (unhide HG).r (by rw [unhide HNL]; omega) hom
    rw [unhide HNL, ← Nat.zero_add L.length] at hfin
    exact hfin

end Go.Proofs.Ytfokocpdngokfaa
