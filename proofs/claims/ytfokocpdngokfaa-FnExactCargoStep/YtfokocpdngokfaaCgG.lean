/- The program's cargoFault. -/
import Derived.Test.YtfokocpdngokfaaCgF
namespace Go.Proofs.Ytfokocpdngokfaa
open Go.RowKit

theorem exec_load {P : Program} {o : Oper} {a : Act} {w : World} (x : Operand) (t : TypeId) (ho : o.op = .load t x) (ad : Addr) (hx : a.eval x = .pointer (some ad)) (v : Value) (hl : (loadVar t ad).run P w = .ok v w) : (execOp a.eval o).run P w = .ok (.value v) w := by
  unfold execOp
  simp only [ho, Instr.loadAt, Instr.sureAddr, hx, Sem.run_bind, Sem.run_pure, Result.andThen_ok, hl]
structure F3 (w W : World) (g0 g1 g2 : Nat) (L N : List CargoTankT) (op : List Value) : Prop where
  below : Below w.heap.size w W
  l : ArrT W g0 L
  n : ArrT W g1 N
  o : OwnV W g2 op
theorem F3.step {w W W' : World} {g0 g1 g2 : Nat} {L N : List CargoTankT} {op : List Value} (h : F3 w W g0 g1 g2 L N op) (hb : Below W.heap.size W W') : F3 w W' g0 g1 g2 L N op := ⟨Below.step h.below hb, h.l.step hb, h.n.step hb, h.o.step hb⟩
theorem boxesF (w : World) {L N : List CargoTankT} (hL : L.length = 12) (hN : N.length = 12) (p0 p1 p2 p3 : Value) : ∃ V g0 g1 g2, V = ((w.alloc (.cells (arC L) 76)).alloc (.cells (arC N) 76)).alloc (.cells #[p0, p1, p2, p3] 31) ∧ g0 = w.heap.size ∧ g1 = w.heap.size + 1 ∧ g2 = w.heap.size + 1 + 1 ∧ F3 w V g0 g1 g2 L N [p0, p1, p2, p3] := by
  have a1 := arrT_box w hL
  have b1 := Below.alloc1 w (.cells (arC L) 76)
  have b2 := Below.alloc1 (w.alloc (.cells (arC L) 76)) (.cells (arC N) 76)
  have n1 := arrT_box (w.alloc (.cells (arC L) 76)) hN
  have b3 := Below.alloc1 ((w.alloc (.cells (arC L) 76)).alloc (.cells (arC N) 76)) (.cells #[p0, p1, p2, p3] 31)
  have o1 := ownV_alloc ((w.alloc (.cells (arC L) 76)).alloc (.cells (arC N) 76)) #[p0, p1, p2, p3] 31
  simp only [World.size_alloc] at o1 n1
  exact ⟨_, _, _, _, rfl, rfl, rfl, rfl, Below.step (Below.step b1 b2) b3, (a1.step b2).step b3, n1.step b3, o1⟩

set_option maxRecDepth 10000 in
set_option maxHeartbeats 4000000 in
theorem cargoFault_any (L N : List CargoTankT) (A B : Nat) (k b m lean : Int) (w : World) (hL : L.length = 12) (hN : N.length = 12) (hML : Mids L) (hMN : Mids N) (hA : A < 12) (hB : k = 3 → b = (B : Int) ∧ B < 12) :
    Calls Try.prog 46 #[.agg (arC L), .agg (arC N), vCargoOp k (A : Int) b m, .int .i64 lean] w fun e w' => e = .returned (.int .i64 (cgR L N k A B lean)) ∧ Below w.heap.size w w' := by
  have Q1 := hide fun V => isDry_any N V hN
  have Q2 := hide fun V => isOver_any N V hN
  have Q3 := hide fun V => mayBurn_any N A B k b m V hN hA hB
  have QL := hide fun V => leaning_any L V hL hML
  have QN := hide fun V => leaning_any N V hN hMN
  have HR : Hid (cgR L N k A B lean = if dryB N = true then 2 else if ovrB N = true then 3 else if (burB (tkA N A) || (decide (k = 3) && burB (tkA N B))) = true then 4 else if lean < lnV N ∧ lnV L < lnV N then 5 else 0) := rfl
  generalize dryB N = d1 at *
  generalize ovrB N = d2 at *
  generalize (burB (tkA N A) || (decide (k = 3) && burB (tkA N B))) = d3 at *
  generalize lnV N = nN at *
  generalize lnV L = nL at *
  obtain ⟨V, g0, g1, g2, eV, e0, e1, e2, hF⟩ := boxesF w hL hN (.int .i64 k) (.int .i64 (A : Int)) (.int .i64 b) (.int .i64 m)
  have HF := hide hF
  unfold vCargoOp at Q3 ⊢
  go_enter Try.func46, Try.ntmps46
  go_upto_region 1 with (fail)
  rw [← eV, ← e2, ← e1, ← e0]
  clear eV e2 e1 e0 hF
  go_step
  refine wpList_loadW rfl _ _ rfl ⟨g1, 0, none⟩ rfl _ (unhide HF).n.load ?_
  go_wp2_with fail
  refine (unhide Q1 _).mono ?_
  rintro e w1 ⟨rfl, hb⟩
  replace HF := hide ((unhide HF).step hb)
  clear hb Q1
  cases d1 with
  | true =>
    replace HR := hide ((unhide HR).trans (if_pos (by first | rfl | simp)))
    go_wp2
    go_ret
    exact ⟨ret_intE (unhide HR).symm, (unhide HF).below⟩
  | false =>
  replace HR := hide ((unhide HR).trans (if_neg (by simp)))
  go_upto_region 3 with (fail)
  go_step
  refine wpList_loadW rfl _ _ rfl ⟨g1, 0, none⟩ rfl _ (unhide HF).n.load ?_
  go_wp2_with fail
  refine (unhide Q2 _).mono ?_
  rintro e w2 ⟨rfl, hb⟩
  replace HF := hide ((unhide HF).step hb)
  clear hb Q2
  cases d2 with
  | true =>
    replace HR := hide ((unhide HR).trans (if_pos (by first | rfl | simp)))
    go_wp2
    go_ret
    exact ⟨ret_intE (unhide HR).symm, (unhide HF).below⟩
  | false =>
  replace HR := hide ((unhide HR).trans (if_neg (by simp)))
  have c0 := (unhide HF).o.cell (i := 0) rfl
  have c1 := (unhide HF).o.cell (i := 1) rfl
  have c2 := (unhide HF).o.cell (i := 2) rfl
  have c3 := (unhide HF).o.cell (i := 3) rfl
  go_upto_region 5 with (fail)
  go_step
  refine wpList_loadW rfl _ _ rfl ⟨g1, 0, none⟩ rfl _ (unhide HF).n.load ?_
  go_wp2_with fail
  refine (unhide Q3 _).mono ?_
  rintro e w3 ⟨rfl, hb⟩
  replace HF := hide ((unhide HF).step hb)
  clear hb Q3 c0 c1 c2 c3
  cases d3 with
  | true =>
    replace HR := hide ((unhide HR).trans (if_pos (by first | rfl | simp)))
    go_wp2
    go_ret
    exact ⟨ret_intE (unhide HR).symm, (unhide HF).below⟩
  | false =>
  replace HR := hide ((unhide HR).trans (if_neg (by simp)))
  by_cases hc : lean ≤ nL
  · have hres : decide (lean < nN ∧ nL < nN) = decide (nL < nN) := by rw [Bool.eq_iff_iff]; simp only [decide_eq_true_eq]; omega
    go_upto_region 7 with (fail)
    go_cut [19] (fun r wx => r = .bool (decide (nL < nN)) ∧ Hid (Below w.heap.size w wx))
    case first =>
      have hd : Below w3.heap.size w3 w3.drew := (Below.refl _ _).drew
      replace HF := hide ((unhide HF).step hd)
      refine wp_region_held_drew (S := fun w' => ArrT w' g0 L ∧ ArrT w' g1 N ∧ Below w.heap.size w w') (by kernel_rfl) ⟨(unhide HF).l, (unhide HF).n, (unhide HF).below⟩ (fun hHeld => ?_)
      clear HF hd
      refine wpAnyH_take (i := 0) (v := .agg (arC N)) rfl (by kernel_rfl) (by kernel_rfl) (by kernel_rfl) (fun _ _ _ h => h) (Or.inl ⟨by rfl, fun wy hSw => exec_load _ _ rfl ⟨g1, 0, none⟩ rfl _ hSw.2.1.load⟩) (by assumption) ?_
      try simp only [Act.put, List.getElem_toArray, List.getElem_cons_zero, List.setIfInBounds_toArray, List.set_cons_zero, List.set_cons_succ]
      refine wpAnyH_take (i := 3) (v := .agg (arC L)) rfl (by kernel_rfl) (by kernel_rfl) (by kernel_rfl) (fun _ _ _ h => h) (Or.inl ⟨by rfl, fun wy hSw => exec_load _ _ rfl ⟨g0, 0, none⟩ rfl _ hSw.1.load⟩) (by assumption) ?_
      try simp only [Act.put, List.getElem_toArray, List.getElem_cons_succ, List.getElem_cons_zero, List.setIfInBounds_toArray, List.set_cons_zero, List.set_cons_succ]
      refine wpAnyH_take (i := 2) (v := .int .i64 lean) rfl (by kernel_rfl) (by kernel_rfl) (by kernel_rfl) (fun _ _ _ h => h) (Or.inl ⟨by rfl, fun wy hSw => ?_⟩) (by assumption) ?_
      · clear hSw
        go_simp
        try with_reducible rfl
        try (intro _; omega)
      try simp only [Act.put, List.getElem_toArray, List.getElem_cons_succ, List.getElem_cons_zero, List.setIfInBounds_toArray, List.set_cons_zero, List.set_cons_succ]
      refine wpAnyH_ready (rs := [1]) (by kernel_rfl) (by simp) ?_
      refine AllReadyH.cons rfl (fun K hK => ?_) AllReadyH.nil
      go_simp
      refine (unhide QN _).mono ?_
      rintro e wp ⟨rfl, hb⟩
      have hHeld' : ArrT wp g0 L ∧ ArrT wp g1 N ∧ Below w.heap.size w wp := ⟨hHeld.1.step hb, hHeld.2.1.step hb, Below.step hHeld.2.2 hb⟩
      clear hb hHeld
      refine hK.out _ _ hHeld' (fun hHeld => ?_)
      clear hK K hHeld'
      try simp only [Act.put, List.getElem_toArray, List.getElem_cons_succ, List.getElem_cons_zero, List.setIfInBounds_toArray, List.set_cons_zero, List.set_cons_succ]
      refine wpAnyH_ready (rs := [4]) (by kernel_rfl) (by simp) ?_
      refine AllReadyH.cons rfl (fun K hK => ?_) AllReadyH.nil
      go_simp
      refine (unhide QL _).mono ?_
      rintro e wq ⟨rfl, hb⟩
      have hHeld' : ArrT wq g0 L ∧ ArrT wq g1 N ∧ Below w.heap.size w wq := ⟨hHeld.1.step hb, hHeld.2.1.step hb, Below.step hHeld.2.2 hb⟩
      clear hb hHeld
      refine hK.out _ _ hHeld' (fun hHeld => ?_)
      clear hK K hHeld'
      try simp only [Act.put, List.getElem_toArray, List.getElem_cons_succ, List.getElem_cons_zero, List.setIfInBounds_toArray, List.set_cons_zero, List.set_cons_succ]
      refine wpAnyH_take (i := 5) (v := .int .i64 nL) rfl (by kernel_rfl) (by kernel_rfl) (by kernel_rfl) (fun _ _ _ h => h) (Or.inl ⟨by rfl, fun wy hSw => ?_⟩) (by assumption) ?_
      · clear hSw
        go_simp
        try with_reducible rfl
        try (intro _; omega)
      try simp only [Act.put, List.getElem_toArray, List.getElem_cons_succ, List.getElem_cons_zero, List.setIfInBounds_toArray, List.set_cons_zero, List.set_cons_succ]
      refine wpAnyH_take (i := 6) (v := .bool (decide (nL < nN))) rfl (by kernel_rfl) (by kernel_rfl) (by kernel_rfl) (fun _ _ _ h => h) (Or.inl ⟨by rfl, fun wy hSw => ?_⟩) (by assumption) ?_
      · clear hSw
        go_simp
        try with_reducible rfl
        try (intro _; omega)
      try simp only [Act.put, List.getElem_toArray, List.getElem_cons_succ, List.getElem_cons_zero, List.setIfInBounds_toArray, List.set_cons_zero, List.set_cons_succ]
      refine wpAnyH_take (i := 7) (v := .bool (decide (nL < nN))) rfl (by kernel_rfl) (by kernel_rfl) (by kernel_rfl) (fun _ _ _ h => h) (Or.inl ⟨by rfl, fun wy hSw => ?_⟩) (by assumption) ?_
      · clear hSw
        go_simp
        try with_reducible rfl
        try (intro _; omega)
      try simp only [Act.put, List.getElem_toArray, List.getElem_cons_succ, List.getElem_cons_zero, List.setIfInBounds_toArray, List.set_cons_zero, List.set_cons_succ]
      refine wpAnyH_done (by kernel_rfl) ?_ _
      go_wp2_with fail
      go_meet
      exact ⟨by first | rfl | (simp; done), hHeld.2.2⟩
    case rest =>
    obtain ⟨rfl, HW⟩ := hcut
    clear HF QL QN
    by_cases hx : nL < nN
    · have hd : decide (nL < nN) = true := decide_eq_true hx
      replace HR := hide ((unhide HR).trans (if_pos (of_decide_eq_true (hres.trans hd))))
      clear hres
      go_wp2
      go_ret
      exact ⟨ret_intE (unhide HR).symm, unhide HW⟩
    · have hd : decide (nL < nN) = false := decide_eq_false hx
      replace HR := hide ((unhide HR).trans (if_neg (of_decide_eq_false (hres.trans hd))))
      clear hres
      go_wp2
      go_ret
      exact ⟨ret_intE (unhide HR).symm, unhide HW⟩
  · have hres : decide (lean < nN ∧ nL < nN) = decide (lean < nN) := by rw [Bool.eq_iff_iff]; simp only [decide_eq_true_eq]; omega
    have hc1 : nL < lean := by omega
    have hc2 : ¬ lean ≤ nL := hc
    go_upto_region 7 with (fail)
    go_cut [19] (fun r wx => r = .bool (decide (lean < nN)) ∧ Hid (Below w.heap.size w wx))
    case first =>
      have hd : Below w3.heap.size w3 w3.drew := (Below.refl _ _).drew
      replace HF := hide ((unhide HF).step hd)
      refine wp_region_held_drew (S := fun w' => ArrT w' g0 L ∧ ArrT w' g1 N ∧ Below w.heap.size w w') (by kernel_rfl) ⟨(unhide HF).l, (unhide HF).n, (unhide HF).below⟩ (fun hHeld => ?_)
      clear HF hd
      refine wpAnyH_take (i := 0) (v := .agg (arC N)) rfl (by kernel_rfl) (by kernel_rfl) (by kernel_rfl) (fun _ _ _ h => h) (Or.inl ⟨by rfl, fun wy hSw => exec_load _ _ rfl ⟨g1, 0, none⟩ rfl _ hSw.2.1.load⟩) (by assumption) ?_
      try simp only [Act.put, List.getElem_toArray, List.getElem_cons_zero, List.setIfInBounds_toArray, List.set_cons_zero, List.set_cons_succ]
      refine wpAnyH_take (i := 3) (v := .agg (arC L)) rfl (by kernel_rfl) (by kernel_rfl) (by kernel_rfl) (fun _ _ _ h => h) (Or.inl ⟨by rfl, fun wy hSw => exec_load _ _ rfl ⟨g0, 0, none⟩ rfl _ hSw.1.load⟩) (by assumption) ?_
      try simp only [Act.put, List.getElem_toArray, List.getElem_cons_succ, List.getElem_cons_zero, List.setIfInBounds_toArray, List.set_cons_zero, List.set_cons_succ]
      refine wpAnyH_take (i := 2) (v := .int .i64 lean) rfl (by kernel_rfl) (by kernel_rfl) (by kernel_rfl) (fun _ _ _ h => h) (Or.inl ⟨by rfl, fun wy hSw => ?_⟩) (by assumption) ?_
      · clear hSw
        go_simp
        try with_reducible rfl
        try (intro _; omega)
      try simp only [Act.put, List.getElem_toArray, List.getElem_cons_succ, List.getElem_cons_zero, List.setIfInBounds_toArray, List.set_cons_zero, List.set_cons_succ]
      refine wpAnyH_ready (rs := [1]) (by kernel_rfl) (by simp) ?_
      refine AllReadyH.cons rfl (fun K hK => ?_) AllReadyH.nil
      go_simp
      refine (unhide QN _).mono ?_
      rintro e wp ⟨rfl, hb⟩
      have hHeld' : ArrT wp g0 L ∧ ArrT wp g1 N ∧ Below w.heap.size w wp := ⟨hHeld.1.step hb, hHeld.2.1.step hb, Below.step hHeld.2.2 hb⟩
      clear hb hHeld
      refine hK.out _ _ hHeld' (fun hHeld => ?_)
      clear hK K hHeld'
      try simp only [Act.put, List.getElem_toArray, List.getElem_cons_succ, List.getElem_cons_zero, List.setIfInBounds_toArray, List.set_cons_zero, List.set_cons_succ]
      refine wpAnyH_ready (rs := [4]) (by kernel_rfl) (by simp) ?_
      refine AllReadyH.cons rfl (fun K hK => ?_) AllReadyH.nil
      go_simp
      refine (unhide QL _).mono ?_
      rintro e wq ⟨rfl, hb⟩
      have hHeld' : ArrT wq g0 L ∧ ArrT wq g1 N ∧ Below w.heap.size w wq := ⟨hHeld.1.step hb, hHeld.2.1.step hb, Below.step hHeld.2.2 hb⟩
      clear hb hHeld
      refine hK.out _ _ hHeld' (fun hHeld => ?_)
      clear hK K hHeld'
      try simp only [Act.put, List.getElem_toArray, List.getElem_cons_succ, List.getElem_cons_zero, List.setIfInBounds_toArray, List.set_cons_zero, List.set_cons_succ]
      refine wpAnyH_take (i := 5) (v := .int .i64 lean) rfl (by kernel_rfl) (by kernel_rfl) (by kernel_rfl) (fun _ _ _ h => h) (Or.inl ⟨by rfl, fun wy hSw => ?_⟩) (by assumption) ?_
      · clear hSw
        go_simp
        try with_reducible rfl
        try (intro _; omega)
      try simp only [Act.put, List.getElem_toArray, List.getElem_cons_succ, List.getElem_cons_zero, List.setIfInBounds_toArray, List.set_cons_zero, List.set_cons_succ]
      refine wpAnyH_take (i := 6) (v := .bool (decide (lean < nN))) rfl (by kernel_rfl) (by kernel_rfl) (by kernel_rfl) (fun _ _ _ h => h) (Or.inl ⟨by rfl, fun wy hSw => ?_⟩) (by assumption) ?_
      · clear hSw
        go_simp
        try with_reducible rfl
        try (intro _; omega)
      try simp only [Act.put, List.getElem_toArray, List.getElem_cons_succ, List.getElem_cons_zero, List.setIfInBounds_toArray, List.set_cons_zero, List.set_cons_succ]
      refine wpAnyH_take (i := 7) (v := .bool (decide (lean < nN))) rfl (by kernel_rfl) (by kernel_rfl) (by kernel_rfl) (fun _ _ _ h => h) (Or.inl ⟨by rfl, fun wy hSw => ?_⟩) (by assumption) ?_
      · clear hSw
        go_simp
        try with_reducible rfl
        try (intro _; omega)
      try simp only [Act.put, List.getElem_toArray, List.getElem_cons_succ, List.getElem_cons_zero, List.setIfInBounds_toArray, List.set_cons_zero, List.set_cons_succ]
      refine wpAnyH_done (by kernel_rfl) ?_ _
      go_wp2_with fail
      go_meet
      exact ⟨by first | rfl | (simp; done), hHeld.2.2⟩
    case rest =>
    obtain ⟨rfl, HW⟩ := hcut
    clear HF QL QN
    by_cases hx : lean < nN
    · have hd : decide (lean < nN) = true := decide_eq_true hx
      replace HR := hide ((unhide HR).trans (if_pos (of_decide_eq_true (hres.trans hd))))
      clear hres
      go_wp2
      go_ret
      exact ⟨ret_intE (unhide HR).symm, unhide HW⟩
    · have hd : decide (lean < nN) = false := decide_eq_false hx
      replace HR := hide ((unhide HR).trans (if_neg (of_decide_eq_false (hres.trans hd))))
      clear hres
      go_wp2
      go_ret
      exact ⟨ret_intE (unhide HR).symm, unhide HW⟩

end Go.Proofs.Ytfokocpdngokfaa
