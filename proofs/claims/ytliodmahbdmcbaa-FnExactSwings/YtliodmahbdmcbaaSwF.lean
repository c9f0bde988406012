/- The contract of the specification's Swings: it tells the same swings. -/
import Derived.Test.YtliodmahbdmcbaaSwE
import Derived.Deep.RegionHeld3
import Derived.Deep.DeepMust
namespace Go.Proofs.Ytliodmahbdmcbaa
open Go.RowKit

theorem take_snoc (T : List Int) {k : Nat} (hk : k < T.length) : T.take (k + 1) = T.take k ++ [T.getD k 0] := by
  rw [List.take_add_one]; simp [List.getD, hk]

theorem own_empty (A : World) : (A.alloc (.cells #[] 3)).ownsRow A.heap.size 3 1 (.slice (some ⟨A.heap.size, 0, none⟩) 0 0) 0 [] :=
  ⟨rfl, Or.inr ⟨A.heap.size, 0, #[], rfl, Nat.le_refl _, Go.Deep.blk_alloc_new _ _, Nat.le_refl _, Nat.zero_le _, rfl, rfl⟩⟩

theorem own_emptyN (A : World) {N : Nat} (hN : N ≤ A.heap.size) : (A.alloc (.cells #[] 3)).ownsRow N 3 1 (.slice (some ⟨A.heap.size, 0, none⟩) 0 0) 0 [] :=
  ⟨rfl, Or.inr ⟨A.heap.size, 0, #[], rfl, hN, Go.Deep.blk_alloc_new _ _, Nat.le_refl _, Nat.zero_le _, rfl, rfl⟩⟩

/-- One cell that lay in a block of its own still lies there behind an append to another row. -/
theorem one_far {A A1 : World} {b : Nat} {row : Option Nat} {x : Value} (hc : A.cell? ⟨b, 0, none⟩ = some x) (hg : A.grownBy A1 row) (hne : row ≠ some b) : ∀ j u, [x][j]? = some u → A1.cell? ((⟨b, 0, none⟩ : Addr).add j) = some u := by
  intro j u hu
  have hlt := lt_of_cell hc
  match j, hu with
  | 0, hu =>
    simp at hu; subst hu
    rw [Go.WideShapes.add_plain]
    exact (World.cell?_of_block (w := A) (a := ⟨b, 0, none⟩) (hg.block b hlt (fun e => hne e.symm))).trans hc
  | j + 1, hu => simp at hu

theorem ints_one (xs : List Int) : ∀ u ∈ ints xs, u.oneCell' = true := by
  intro u hu
  simp only [ints, List.mem_map] at hu
  obtain ⟨x, _, rfl⟩ := hu
  rfl

theorem swEnd_take (L : List Int) (k : Nat) (hk : k ≤ (turnsOf L).length) : lvl (swSt ((turnsOf L).take k)).1 ∧ (swSt ((turnsOf L).take k)).2.length + (swSt ((turnsOf L).take k)).1.length ≤ k := by
  cases hok : lvOk L with
  | true =>
    refine swSt_inv (turnsOf L) (turnsOf_len L) (fun x hx => ?_) k hk
    simp only [lvOk, Bool.and_eq_true, List.all_eq_true] at hok
    have := hok.2 x (turnsOf_mem L x hx)
    simp only [inB, Bool.and_eq_true, decide_eq_true_eq] at this
    exact this
  | false =>
    have : turnsOf L = [] := by simp [turnsOf, hok]
    rw [this]
    simp [swSt, lvl]

theorem turns_bd (L : List Int) (k : Nat) (hk : k < (turnsOf L).length) : -1000000000 ≤ (turnsOf L).getD k 0 ∧ (turnsOf L).getD k 0 ≤ 1000000000 := by
  cases hok : lvOk L with
  | true =>
    simp only [lvOk, Bool.and_eq_true, List.all_eq_true] at hok
    have := hok.2 ((turnsOf L).getD k 0) (turnsOf_mem L _ (by rw [getD_lt hk]; exact List.getElem_mem _))
    simp only [inB, Bool.and_eq_true, decide_eq_true_eq] at this
    exact this
  | false =>
    have : turnsOf L = [] := by simp [turnsOf, hok]
    rw [this] at hk
    simp at hk

set_option maxRecDepth 100000 in
set_option maxHeartbeats 4000000 in
theorem specSwings_any (v : Value) (L : List Int) (w : World) (h : IntsIn w v L) :
    Calls Try.prog 38 #[v] w fun e w' => ∃ ao n cap, e = .returned (.slice ao n cap) ∧ OwnSw w.heap.size w' (.slice ao n cap) (swingsOf L) ∧ Below w.heap.size w w' := by
  have HV := hide h
  obtain ⟨ao, cap, rfl, hl, hm, hc⟩ := h
  clear hc hl hm
  obtain ⟨i0, hi, hz0, hz1, hz2⟩ := info_parts Try.infoSw
  obtain ⟨j0, hj, hy0, hy1, hy2⟩ := info_parts Try.info3
  have A2 : Below w.heap.size w ((w.alloc (.cells #[] 38)).alloc (.cells #[] 3)) := Below.step (Below.alloc1 _ _) (Below.alloc1 _ _)
  have HT := hide (specTurns_any _ L _ ((unhide HV).below A2))
  have HO : Hid (((w.alloc (.cells #[] 38)).alloc (.cells #[] 3)).ownsRow w.heap.size 38 2 (.slice (some ⟨w.heap.size, 0, none⟩) 0 0) 0 []) :=
    World.ownsRow.alloc (⟨rfl, Or.inr ⟨w.heap.size, 0, #[], rfl, Nat.le_refl _, Go.Deep.blk_alloc_new _ _, Nat.le_refl _, Nat.zero_le _, rfl, rfl⟩⟩) _
  have HS : Hid (((w.alloc (.cells #[] 38)).alloc (.cells #[] 3)).ownsRow w.heap.size 3 1 (.slice (some ⟨w.heap.size + 1, 0, none⟩) 0 0) 0 []) := by
    have := own_empty (w.alloc (.cells #[] 38))
    simp only [World.size_alloc] at this
    obtain ⟨h1, h2⟩ := this
    refine ⟨h1, ?_⟩
    rcases h2 with q | ⟨g, cap, cur, hv, hg, r⟩
    · exact Or.inl q
    · exact Or.inr ⟨g, cap, cur, hv, by omega, r⟩
  have HA := hide A2
  have hzA : ((w.alloc (.cells #[] 38)).alloc (.cells #[] 3)).heap.size = w.heap.size + 2 := by simp
  clear A2
  go_enter Try.func38, Try.ntmps38
  go_wp2_with (go_at_call 23; refine (unhide HT).mono ?_; rintro e w1 ⟨ta, tn, tc, rfl, hsl, hb⟩; have HSL := hide hsl; have HB := hide hb; clear hsl hb)
  have SP0 : Hid (Sp w (turnsOf L) ta (.slice (some ⟨w.heap.size, 0, none⟩) 0 0) (.slice (some ⟨w.heap.size + 1, 0, none⟩) 0 0) [] [] w1) := by
    have hb := unhide HB
    refine ⟨ownsRow_keptT (T := fun _ => False) (unhide HO) (kept_of_below hb) (fun _ _ h => h), ownsRow_keptT (T := fun _ => False) (unhide HS) (kept_of_below hb) (fun _ _ h => h), fun g e => ?_, fun i hi => ?_, (unhide HA).trans (hb.mono (unhide HA).size)⟩
    · simp [Value.ownBlock] at e ⊢; omega
    · obtain ⟨ta', tc', e, _, _, hto⟩ := unhide HSL
      simp only [Value.slice.injEq] at e
      obtain ⟨rfl, _, _⟩ := e
      obtain ⟨g, rfl, hg, ho⟩ := hto (fun e => by rw [e] at hi; simp at hi)
      rw [hzA] at hg
      exact ⟨g, 0, rfl, by rw [Nat.zero_add]; exact ho.cell (ints_get _ hi), by simp [Value.ownBlock]; omega, by simp [Value.ownBlock]; omega⟩
  have etn : tn = (turnsOf L).length ∧ tc ≤ maxLen ∧ tn ≤ tc := by
    obtain ⟨ta', tc', e, h1, h2, _⟩ := unhide HSL
    simp only [Value.slice.injEq] at e
    exact ⟨e.2.1, by rw [e.2.2]; exact h2, by rw [e.2.1, e.2.2]; exact h1⟩
  obtain ⟨rfl, htm, htl⟩ := etn
  unfold maxLen at htm
  have HTB := hide (turns_bd L)
  have HTK := hide (swEnd_take L)
  have hTl := turnsOf_len L
  have HE : Hid (swingsOf L = (swSt (turnsOf L)).2 ++ halvesTo (swSt (turnsOf L)).1 ((swSt (turnsOf L)).1.length - 1)) := rfl
  generalize turnsOf L = T at *
  clear HSL HB HO HS HA HV HT hzA
  go_loopg [3, 4, 6] T.length (fun g ov sv i wr => ∃ k : Nat, k ≤ T.length ∧ g = T.length - k ∧ i = .int .i64 k ∧ Hid (Sp w T ta ov sv (swSt (T.take k)).2 (swSt (T.take k)).1 wr))
  case atStart => exact ⟨0, Nat.zero_le _, rfl, rfl, SP0⟩
  case round =>
    clear SP0
    obtain ⟨k, hk, rfl, rfl, HSP⟩ := hrel
    by_cases hkn : k < T.length
    · obtain ⟨b, o, rfl, hcell, _, _⟩ := (unhide HSP).t k hkn
      have hki : (k : Int) < T.length := by omega
      have hxb := unhide HTB k hkn
      obtain ⟨hlv, hln⟩ := unhide HTK k hk
      have HE1 : Hid (swSt (T.take (k + 1)) = pushS (swSt (T.take k)) (T.getD k 0)) := by show _ = _; rw [take_snoc T hkn, swSt_snoc]
      generalize T.getD k 0 = x at *
      obtain ⟨⟨xs, out⟩, es⟩ : ∃ s, s = swSt (T.take k) := ⟨_, rfl⟩
      rw [← es] at HSP hlv hln HE1
      dsimp only at HSP hlv hln
      clear es
      obtain ⟨sa, sc, rfl⟩ := (unhide HSP).form
      have hwr := (unhide HSP).below.size
      go_wp2_with (at_builtin; refine wpList_append_own_at _ rfl _ _ 24 rfl w.heap.size 3 j0 (.int .i64 0) 1 8 Try.underlying24 hj hy0 hy1 hy2 rfl (by decide) _ xs.length (ints xs) rfl ((unhide HSP).s.alloc _) ⟨wr.heap.size, 0, none⟩ 1 1 [.int .i64 x] rfl rfl (cell_one_new _ _ _) (by simp [Value.oneCell']) (by unfold maxLen; omega) (by omega) (by simp; omega) ?_; intro v' w2 hown hgrow _ hat; have HS2 := hide ((unhide HSP).pushS (Below.alloc1 _ _) hown hgrow hat); clear hown hgrow hat)
      have HR1 : Hid (∃ n, (xs ++ [x]).length ≤ n ∧ red n (xs ++ [x]) out = swSt (T.take (k + 1))) := ⟨xs.length + 1, by simp, (unhide HE1).symm⟩
      have HL1 : Hid (lvl (xs ++ [x])) := by
        refine ⟨by simp; omega, fun y hy => ?_⟩
        rcases List.mem_append.1 hy with hy | hy
        · exact hlv.2 y hy
        · simp only [List.mem_singleton] at hy
          subst hy; exact hxb
      have hn1 : out.length + (xs ++ [x]).length ≤ 201 := by simp; omega
      clear HE1 HSP hlv hln hxb hcell hwr
      generalize xs ++ [x] = ys at *
      go_loopg [3, 4] ys.length (fun g ov sv wr => ∃ ys ot, g = List.length ys ∧ Hid (lvl ys) ∧ List.length ot + List.length ys ≤ 201 ∧ Hid (∃ n, ys.length ≤ n ∧ red n ys ot = swSt (T.take (k + 1))) ∧ Hid (Sp w T (some ⟨b, o, none⟩) ov sv ot ys wr))
      case atStart => exact ⟨ys, out, rfl, HL1, hn1, HR1, HS2⟩
      case round =>
        clear HS2 HL1 hn1 HR1
        clear ys out
        obtain ⟨ys, ot, rfl, HL, hn, HR, HSP⟩ := hrel
        by_cases h3 : 3 ≤ ys.length
        · obtain ⟨g, scap, rfl, hsc, hsm, hcs⟩ := (unhide HSP).stack (by omega)
          obtain ⟨m, em⟩ : ∃ m, m = ys.length := ⟨_, rfl⟩
          have HM := hide em
          obtain ⟨p, q, r, ep, eq, er⟩ : ∃ p q r : Nat, p = m - 1 ∧ q = m - 2 ∧ r = m - 3 := ⟨_, _, _, rfl, rfl, rfl⟩
          have c0 := hcs p (by omega)
          have c1 := hcs q (by omega)
          have c2 := hcs r (by omega)
          have L0 : Hid (lst ys 0 = ys.getD p 0) := by show _ = _; unfold lst; rw [ep, em]; rfl
          have L1 : Hid (lst ys 1 = ys.getD q 0) := by show _ = _; unfold lst; rw [eq, em]; rfl
          have L2 : Hid (lst ys 2 = ys.getD r 0) := by show _ = _; unfold lst; rw [er, em]; rfl
          have b0 := lst_bd (unhide HL) 0 (by omega)
          have b1 := lst_bd (unhide HL) 1 (by omega)
          have b2 := lst_bd (unhide HL) 2 (by omega)
          rw [unhide L0] at b0
          rw [unhide L1] at b1
          rw [unhide L2] at b2
          have HCS := hide hcs
          rw [← em] at hsc h3 hn
          have hg0 : Hid (Sp w T (some ⟨b, o, none⟩) u3 (.slice (some ⟨g, 0, none⟩) m scap) ot ys wr) := by rw [← em] at HSP; exact HSP
          rw [← em]
          clear HSP hcs
          generalize hX0 : ys.getD p 0 = x0 at *
          generalize hX1 : ys.getD q 0 = x1 at *
          generalize hX2 : ys.getD r 0 = x2 at *
          clear hX0 hX1 hX2
          have ECL : Hid (closedB ys = decide ((x1 - x2).natAbs ≤ (x0 - x1).natAbs)) := by
            show _ = _
            rw [closedB, unhide L0, unhide L1, unhide L2, decide_eq_true (show 3 ≤ ys.length by omega), Bool.true_and]
          have ESW : Hid (swing ys = (((x1 - x2).natAbs : Int), decide (m = 3))) := by
            show _ = _
            rw [swing, unhide L1, unhide L2, ← em]
          have w1' : IntKind.i64.wrap ((m : Int) - 1) = (p : Int) := by rw [IntKind.wrap_i64]; omega
          have w2' : IntKind.i64.wrap ((m : Int) - 2) = (q : Int) := by rw [IntKind.wrap_i64]; omega
          have w3' : IntKind.i64.wrap ((m : Int) - 3) = (r : Int) := by rw [IntKind.wrap_i64]; omega
          have v1' : (m : Int) - 1 = (p : Int) := by omega
          have v2' : (m : Int) - 2 = (q : Int) := by omega
          have v3' : (m : Int) - 3 = (r : Int) := by omega
          have y1' : IntKind.i64.wrap (p : Int) = (p : Int) := by rw [IntKind.wrap_i64]; omega
          have y2' : IntKind.i64.wrap (q : Int) = (q : Int) := by rw [IntKind.wrap_i64]; omega
          have y3' : IntKind.i64.wrap (r : Int) = (r : Int) := by rw [IntKind.wrap_i64]; omega
          have p1 : (p : Int) < m := by omega
          have p2 : (q : Int) < m := by omega
          have p3 : (r : Int) < m := by omega
          have h3i : (3 : Int) ≤ m := by omega
          have HPQ := hide (And.intro ep (And.intro eq er))
          unfold maxLen at hsm
          clear em ep eq er
          obtain ⟨b0, b0'⟩ := b0
          obtain ⟨b1, b1'⟩ := b1
          obtain ⟨b2, b2'⟩ := b2
          have k1 : IntKind.i64.wrap (x0 - x1) = x0 - x1 := by rw [IntKind.wrap_i64]; omega
          have k2 : IntKind.i64.wrap (x1 - x2) = x1 - x2 := by rw [IntKind.wrap_i64]; omega
          go_wp2
          go_quiet ((go_at_call 64; exact Calls.quiet_of_same (l3Size_any _ _ (by omega) (by omega))))
          obtain ⟨wq, eq⟩ : ∃ x, x = wr.drewN nq := ⟨_, rfl⟩
          rw [← eq]
          have HSP : Hid (Sp w T (some ⟨b, o, none⟩) u3 (.slice (some ⟨g, 0, none⟩) m scap) ot ys wq) := by
            show Sp _ _ _ _ _ _ _ _
            rw [eq]; exact (unhide hg0).grow (below_drewN (Below.refl _ _) nq)
          replace HCS : Hid (∀ j, j < ys.length → wq.cell? ⟨g, j, none⟩ = some (.int .i64 (ys.getD j 0))) := by intro j hj; rw [eq]; exact unhide HCS j hj
          replace c0 : wq.cell? ⟨g, p, none⟩ = some (.int .i64 x0) := by rw [eq]; exact c0
          clear eq hg0 c1 c2
          have hX : Hid (∀ X Y : Int, X = ((x0 - x1).natAbs : Int) → Y = ((x1 - x2).natAbs : Int) → (closedB ys = true → Y ≤ X) ∧ (closedB ys = false → X < Y)) := by
            intro X Y hX hY
            rw [unhide ECL, decide_eq_true_eq, decide_eq_false_iff_not]
            omega
          cases hcl : closedB ys with
          | false =>
            have HFIN : Hid (Sp w T (some ⟨b, o, none⟩) u3 (.slice (some ⟨g, 0, none⟩) m scap) (swSt (T.take (k + 1))).2 (swSt (T.take (k + 1))).1 wq) := by
              obtain ⟨n, _, h2⟩ := unhide HR
              rw [red_stop hcl] at h2
              show Sp _ _ _ _ _ _ _ _
              rw [← h2]; exact unhide HSP
            have hlt := (unhide hX _ _ rfl rfl).2 hcl
            clear hcl hX ECL ESW HCS HSP
            generalize ((x0 - x1).natAbs : Int) = X at *
            generalize ((x1 - x2).natAbs : Int) = Y at *
            go_wp2
            go_roundg (T.length - (k + 1))
            case measure => omega
            case rel => exact ⟨k + 1, by omega, rfl, by go_num, HFIN⟩
          | true =>
            have hle := (unhide hX _ _ rfl rfl).1 hcl
            have HN := hide (closeS_lvl (unhide HL) (by have := unhide HM; omega))
            have HR2 : Hid (∃ n, (closeS ys).length ≤ n ∧ red n (closeS ys) (ot ++ [swing ys]) = swSt (T.take (k + 1))) := by
              obtain ⟨n, h1, h2⟩ := unhide HR
              have h3 := (unhide HN).2
              have h4 := closedB_len hcl
              cases n with
              | zero => omega
              | succ n => exact ⟨n, by omega, by rw [← red_go hcl]; exact h2⟩
            have hn3 : (ot ++ [swing ys]).length + (closeS ys).length ≤ 201 := by have := (unhide HN).2; have := unhide HM; simp; omega
            have hn4 : (closeS ys).length < ys.length := by have := (unhide HN).2; omega
            have hwq := (unhide HSP).below.size
            clear hcl hX ECL HR
            rw [unhide ESW] at HR2 hn3
            generalize ((x0 - x1).natAbs : Int) = X at *
            generalize ((x1 - x2).natAbs : Int) = Y at *
            by_cases hm3 : m = 3
            · subst hm3
              rw [decide_eq_true (show (3 : Nat) = 3 from rfl)] at HR2 hn3
              have EC : Hid (closeS ys = [ys.getD 1 0, ys.getD 2 0]) := by
                have hm := unhide HM
                show _ = _
                rw [closeS, if_pos hm.symm]
                match ys, hm with
                | [a, b, c], _ => rfl
              have LAST : Hid (∀ w3 v4, Sp w T (some ⟨b, o, none⟩) v4 (.slice (some ⟨g, 0, none⟩) 3 scap) (ot ++ [(Y, true)]) ys w3 → ∀ V : World, Below w3.heap.size w3 V → ∀ j u, [Value.int .i64 (ys.getD 1 0), .int .i64 (ys.getD 2 0)][j]? = some u → V.cell? ((⟨g, 1, none⟩ : Addr).add j) = some u) := by
                intro w3 v4 h V hV j u hu
                have hm := unhide HM
                obtain ⟨g', cap', e, _, _, hcc⟩ := h.stack (by omega)
                simp only [Value.slice.injEq, Option.some.injEq, Addr.mk.injEq, and_true] at e
                obtain ⟨rfl, _, _⟩ := e
                rw [Go.WideShapes.add_plain]
                match j, hu with
                | 0, hu => simp at hu; subst hu; exact (hV.cell (lt_of_cell (hcc 1 (by omega)))).trans (hcc 1 (by omega))
                | 1, hu => simp at hu; subst hu; exact (hV.cell (lt_of_cell (hcc 2 (by omega)))).trans (hcc 2 (by omega))
                | j + 2, hu => simp at hu
              clear HPQ HCS ESW
              go_wp2_with (at_builtin; first | (refine wpList_append_own_at _ rfl _ _ 35 rfl w.heap.size 38 i0 _ 2 16 Try.underlying35 hi hz0 hz1 hz2 rfl (by decide) _ ot.length (recCells 2 eSw ot) rfl ((unhide HSP).o.alloc _) ⟨wq.heap.size, 0, none⟩ 1 1 [.int .i64 Y, .bool true] rfl rfl (cell_two_new _ _ _ _) (by simp [Value.oneCell']) (by unfold maxLen; omega) (by omega) (by simp; omega) ?_; intro v4 w3 hown hgrow _ hat; have HS3 := hide ((unhide HSP).pushO (s := (Y, true)) (Below.alloc1 _ _) hown hgrow hat); clear hown hgrow hat; have HCC := hide (unhide LAST w3 v4 (unhide HS3))) | go_must (refine wpList_append_own_at _ rfl _ _ 24 rfl w3.heap.size 3 j0 _ 1 8 Try.underlying24 hj hy0 hy1 hy2 rfl (by decide) (.slice (some ⟨w3.heap.size, 0, none⟩) 0 0) 0 [] rfl (own_empty w3) ⟨g, 1, none⟩ 2 _ [.int .i64 (ys.getD 1 0), .int .i64 (ys.getD 2 0)] rfl rfl (unhide HCC _ (Below.alloc1 _ _)) (by simp [Value.oneCell']) (by unfold maxLen; omega) (by omega) (by simp) ?_; intro v5 w5 hown hgrow _ hat; have HS5 : Hid (Sp w T (some ⟨b, o, none⟩) v4 v5 (ot ++ [(Y, true)]) [ys.getD 1 0, ys.getD 2 0] w5) := (unhide HS3).newS ((Below.alloc1 w3 _).grown hgrow (by simp) (fun b' hb' => by have e' : w3.heap.size = b' := (by simpa [Value.ownBlock] using hb'); omega)) (by simpa [ints] using hown); clear hown hgrow hat))
              go_roundg (closeS ys).length
              case measure => exact hn4
              case rel => exact ⟨closeS ys, ot ++ [(Y, true)], rfl, (unhide HN).1, hn3, HR2, by rw [unhide EC]; exact HS5⟩
            · have e1 : ((m : Int) == 3) = false := by rw [beq_eq_false_iff_ne]; omega
              have EC : Hid (closeS ys = ys.take r ++ [x0]) := by
                have hm := unhide HM
                have hp := unhide HPQ
                show _ = _
                rw [closeS, if_neg (by omega), unhide L0, ← hm, hp.2.2]
              rw [decide_eq_false hm3] at HR2 hn3
              have hrl : Hid ((ys.take r).length = r) := by
                have hm := unhide HM
                have hp := unhide HPQ
                show _ = _
                simp; omega
              have HX0 : Hid (ys.getD p 0 = x0) := by
                have h1 := unhide HCS p (by have := unhide HM; omega)
                rw [c0] at h1
                simp at h1
                exact h1.symm
              have HROW : Hid (∀ w3 v4, Sp w T (some ⟨b, o, none⟩) v4 (.slice (some ⟨g, 0, none⟩) m scap) (ot ++ [(Y, false)]) ys w3 → ∀ V : World, Below w3.heap.size w3 V → ∀ j u, (ints (ys.take r))[j]? = some u → V.cell? ((⟨g, 0, none⟩ : Addr).add j) = some u) := by
                intro w3 v4 h V hV j u hu
                have hm := unhide HM
                have hj : j < (ys.take r).length := by
                  rcases Nat.lt_or_ge j (ys.take r).length with h | h
                  · exact h
                  · rw [List.getElem?_eq_none (by rw [ints_length]; exact h)] at hu; cases hu
                have hj' := hj
                rw [unhide hrl] at hj'
                have hc := h.cellAt (j := j) (by omega) rfl
                rw [Go.WideShapes.add_plain, Nat.zero_add]
                refine ((hV.cell (lt_of_cell hc)).trans hc).trans ?_
                rw [ints_get _ hj] at hu
                rw [← hu]
                simp [List.getD, hj']
              clear HCS ESW
              go_wp2_with (at_builtin; go_must (refine wpList_append_own_at _ rfl _ _ 35 rfl w.heap.size 38 i0 _ 2 16 Try.underlying35 hi hz0 hz1 hz2 rfl (by decide) _ ot.length (recCells 2 eSw ot) rfl ((unhide HSP).o.alloc _) ⟨wq.heap.size, 0, none⟩ 1 1 [.int .i64 Y, .bool false] rfl rfl (cell_two_new _ _ _ _) (by simp [Value.oneCell']) (by unfold maxLen; omega) (by omega) (by simp; omega) ?_; intro v4 w3 hown hgrow _ hat; have HS3 := hide ((unhide HSP).pushO (s := (Y, false)) (Below.alloc1 _ _) hown hgrow hat); clear hown hgrow hat))
              replace c0 : w3.cell? ⟨g, p, none⟩ = some (.int .i64 x0) := (unhide HS3).cellAt (by have := unhide HM; omega) (unhide HX0)
              replace HROW := hide (unhide HROW w3 v4 (unhide HS3))
              have hrs : (r : Int) ≤ scap := by omega
              have hz3 := (unhide HS3).below.size
              go_region_held3 (fun w' => w'.cell? ⟨g, p, none⟩ = some (.int .i64 x0)) (go_keep) (first | (refine step_append_own_at (by rfl) (.tmp 76) (.tmp 80) 24 (by rfl) w3.heap.size 3 j0 _ 1 8 Try.underlying24 hj hy0 hy1 hy2 rfl (by decide) (.slice (some ⟨w3.heap.size, 0, none⟩) 0 0) 0 [] (by rfl) (own_emptyN w3 (Nat.le_refl _)).drew ⟨g, 0, none⟩ r scap (ints (ys.take r)) (by rfl) (by rw [ints_length, unhide hrl, Nat.mul_one]) (unhide HROW _ ((Below.alloc1 w3 (.cells #[] 3)).drew)) (ints_one _) (by unfold maxLen; omega) (by omega) (by simp <;> omega) ?_; intro v81 w4 hown4 hgrow4 _ hat4; have HO4 : Hid (w4.ownsRow w3.heap.size 3 1 v81 r (ints (ys.take r))) := hide (by simpa using hown4); have HB4 : Hid (Below w3.heap.size w3 w4) := (((Below.alloc1 w3 (.cells #[] 3)).drew)).grown hgrow4 (by simp <;> omega) (fun b' hb' => by have e' : w3.heap.size = b' := (by simpa [Value.ownBlock] using hb'); omega); have d4 : w4.cell? ⟨g, p, none⟩ = some (.int .i64 x0) := ((unhide HB4).cell (lt_of_cell c0)).trans c0; have HT1 : Hid True := trivial; clear hown4 hgrow4 hat4) | (refine step_append_own_at (by rfl) (.tmp 76) (.tmp 80) 24 (by rfl) w3.heap.size 3 j0 _ 1 8 Try.underlying24 hj hy0 hy1 hy2 rfl (by decide) (.slice (some ⟨w3.heap.size, 0, none⟩) 0 0) 0 [] (by rfl) ((own_emptyN w3 (Nat.le_refl _)).alloc (.cells #[.int .i64 x0] 3)).drew ⟨g, 0, none⟩ r scap (ints (ys.take r)) (by rfl) (by rw [ints_length, unhide hrl, Nat.mul_one]) (unhide HROW _ ((Below.step (Below.alloc1 w3 (.cells #[] 3)) (Below.alloc1 _ (.cells #[.int .i64 x0] 3))).drew)) (ints_one _) (by unfold maxLen; omega) (by omega) (by simp <;> omega) ?_; intro v81 w4 hown4 hgrow4 _ hat4; have HO4 : Hid (w4.ownsRow w3.heap.size 3 1 v81 r (ints (ys.take r))) := hide (by simpa using hown4); have HB4 : Hid (Below w3.heap.size w3 w4) := (((Below.step (Below.alloc1 w3 (.cells #[] 3)) (Below.alloc1 _ (.cells #[.int .i64 x0] 3))).drew)).grown hgrow4 (by simp <;> omega) (fun b' hb' => by have e' : w3.heap.size = b' := (by simpa [Value.ownBlock] using hb'); omega); have d4 : w4.cell? ⟨g, p, none⟩ = some (.int .i64 x0) := ((unhide HB4).cell (lt_of_cell c0)).trans c0; have HT2 := hide (one_far (A := ((w3.alloc (.cells #[] 3)).alloc (.cells #[.int .i64 x0] 3)).drew) (b := w3.heap.size + 1) (x := .int .i64 x0) (by simp) hgrow4 (by simp [Value.ownBlock])); clear hown4 hgrow4 hat4) | (refine step_append_own_at (by rfl) (.tmp 76) (.tmp 80) 24 (by rfl) w3.heap.size 3 j0 _ 1 8 Try.underlying24 hj hy0 hy1 hy2 rfl (by decide) (.slice (some ⟨w3.heap.size + 1, 0, none⟩) 0 0) 0 [] (by rfl) (by have h := own_emptyN (w3.alloc (.cells #[.int .i64 x0] 3)) (N := w3.heap.size) (by simp); simp only [World.size_alloc] at h; exact h.drew) ⟨g, 0, none⟩ r scap (ints (ys.take r)) (by rfl) (by rw [ints_length, unhide hrl, Nat.mul_one]) (unhide HROW _ ((Below.step (Below.alloc1 w3 (.cells #[.int .i64 x0] 3)) (Below.alloc1 _ (.cells #[] 3))).drew)) (ints_one _) (by unfold maxLen; omega) (by omega) (by simp <;> omega) ?_; intro v81 w4 hown4 hgrow4 _ hat4; have HO4 : Hid (w4.ownsRow w3.heap.size 3 1 v81 r (ints (ys.take r))) := hide (by simpa using hown4); have HB4 : Hid (Below w3.heap.size w3 w4) := (((Below.step (Below.alloc1 w3 (.cells #[.int .i64 x0] 3)) (Below.alloc1 _ (.cells #[] 3))).drew)).grown hgrow4 (by simp <;> omega) (fun b' hb' => by have e' : w3.heap.size + 1 = b' := (by simpa [Value.ownBlock] using hb'); omega); have d4 : w4.cell? ⟨g, p, none⟩ = some (.int .i64 x0) := ((unhide HB4).cell (lt_of_cell c0)).trans c0; have HT3 := hide (one_far (A := ((w3.alloc (.cells #[.int .i64 x0] 3)).alloc (.cells #[] 3)).drew) (b := w3.heap.size) (x := .int .i64 x0) (by simp) hgrow4 (by simp [Value.ownBlock])); clear hown4 hgrow4 hat4) | (have HT1' := unhide HT1; refine step_append_own_at (by rfl) (.tmp 81) (.tmp 87) 24 (by rfl) w3.heap.size 3 j0 _ 1 8 Try.underlying24 hj hy0 hy1 hy2 rfl (by decide) v81 r (ints (ys.take r)) (by rfl) ((unhide HO4).alloc _) ⟨w4.heap.size, 0, none⟩ 1 1 [.int .i64 x0] (by rfl) (by rfl) (cell_one_new _ _ _) (by simp [Value.oneCell']) (by unfold maxLen; omega) (by omega) (by have := (unhide HB4).size; simp; omega) ?_; intro v88 w5 hown5 hgrow5 _ hat5; have HB5 : Hid (Below w3.heap.size w3 w5) := ((unhide HB4).alloc (by have := (unhide HB4).size; omega) _).grown hgrow5 (by have := (unhide HB4).size; simp; omega) (fun b' hb' => ((unhide HO4).lt b' hb').1); have HS5 : Hid (Sp w T (some ⟨b, o, none⟩) v4 v88 (ot ++ [(Y, false)]) (ys.take r ++ [x0]) w5) := (unhide HS3).newS (unhide HB5) (by rw [show (ys.take r ++ [x0]).length = r + 1 by rw [List.length_append, unhide hrl]; rfl, ints_snoc]; exact hown5); have d5 : w5.cell? ⟨g, p, none⟩ = some (.int .i64 x0) := ((unhide HB5).cell (lt_of_cell c0)).trans c0; clear hown5 hgrow5 hat5 HT1') | (have HT2' := unhide HT2; refine step_append_own_at (by rfl) (.tmp 81) (.tmp 87) 24 (by rfl) w3.heap.size 3 j0 _ 1 8 Try.underlying24 hj hy0 hy1 hy2 rfl (by decide) v81 r (ints (ys.take r)) (by rfl) (unhide HO4) ⟨w3.heap.size + 1, 0, none⟩ 1 1 [.int .i64 x0] (by rfl) (by rfl) HT2' (by simp [Value.oneCell']) (by unfold maxLen; omega) (by omega) (by have := (unhide HB4).size; simp; omega) ?_; intro v88 w5 hown5 hgrow5 _ hat5; have HB5 : Hid (Below w3.heap.size w3 w5) := (unhide HB4).grown hgrow5 (by have := (unhide HB4).size; simp; omega) (fun b' hb' => ((unhide HO4).lt b' hb').1); have HS5 : Hid (Sp w T (some ⟨b, o, none⟩) v4 v88 (ot ++ [(Y, false)]) (ys.take r ++ [x0]) w5) := (unhide HS3).newS (unhide HB5) (by rw [show (ys.take r ++ [x0]).length = r + 1 by rw [List.length_append, unhide hrl]; rfl, ints_snoc]; exact hown5); have d5 : w5.cell? ⟨g, p, none⟩ = some (.int .i64 x0) := ((unhide HB5).cell (lt_of_cell c0)).trans c0; clear hown5 hgrow5 hat5 HT2') | (have HT3' := unhide HT3; refine step_append_own_at (by rfl) (.tmp 81) (.tmp 87) 24 (by rfl) w3.heap.size 3 j0 _ 1 8 Try.underlying24 hj hy0 hy1 hy2 rfl (by decide) v81 r (ints (ys.take r)) (by rfl) (unhide HO4) ⟨w3.heap.size, 0, none⟩ 1 1 [.int .i64 x0] (by rfl) (by rfl) HT3' (by simp [Value.oneCell']) (by unfold maxLen; omega) (by omega) (by have := (unhide HB4).size; simp; omega) ?_; intro v88 w5 hown5 hgrow5 _ hat5; have HB5 : Hid (Below w3.heap.size w3 w5) := (unhide HB4).grown hgrow5 (by have := (unhide HB4).size; simp; omega) (fun b' hb' => ((unhide HO4).lt b' hb').1); have HS5 : Hid (Sp w T (some ⟨b, o, none⟩) v4 v88 (ot ++ [(Y, false)]) (ys.take r ++ [x0]) w5) := (unhide HS3).newS (unhide HB5) (by rw [show (ys.take r ++ [x0]).length = r + 1 by rw [List.length_append, unhide hrl]; rfl, ints_snoc]; exact hown5); have d5 : w5.cell? ⟨g, p, none⟩ = some (.int .i64 x0) := ((unhide HB5).cell (lt_of_cell c0)).trans c0; clear hown5 hgrow5 hat5 HT3'))
              all_goals
                go_wp2
                go_roundg (closeS ys).length
                case measure => exact hn4
                case rel => exact ⟨closeS ys, ot ++ [(Y, false)], rfl, (unhide HN).1, hn3, HR2, by rw [unhide EC]; exact HS5⟩
        · obtain ⟨sa, sc, rfl⟩ := (unhide HSP).form
          have HFIN : Hid (Sp w T (some ⟨b, o, none⟩) u3 (.slice sa ys.length sc) (swSt (T.take (k + 1))).2 (swSt (T.take (k + 1))).1 wr) := by
            obtain ⟨n, _, h2⟩ := unhide HR
            rw [red_stop (by simp [closedB, h3])] at h2
            show Sp _ _ _ _ _ _ _ _
            rw [← h2]; exact unhide HSP
          have h3i : (ys.length : Int) < 3 := by omega
          have d3 : decide (3 ≤ (ys.length : Int)) = false := by simp; omega
          have d3' : decide (3 ≤ ys.length) = false := by simp; omega
          go_wp2
          go_roundg (T.length - (k + 1))
          case measure => omega
          case rel => exact ⟨k + 1, by omega, rfl, by go_num, HFIN⟩
    · have hkT : k = T.length := by omega
      subst hkT
      rw [List.take_length] at HSP
      obtain ⟨hlv, hln⟩ := unhide HTK T.length (Nat.le_refl _)
      rw [List.take_length] at hlv hln
      obtain ⟨⟨S, out⟩, es⟩ : ∃ s, s = swSt T := ⟨_, rfl⟩
      rw [← es] at HSP hlv hln HE
      dsimp only at HSP hlv hln HE
      clear es
      have HLV := hide hlv
      clear hlv HTB HTK
      go_wp2
      go_loopg [3, 10] S.length (fun g ov i wr => ∃ k : Nat, k ≤ S.length - 1 ∧ g = S.length - k ∧ i = .int .i64 k ∧ Hid (Sp w T ta ov u4 (out ++ halvesTo S k) S wr))
      case atStart => exact ⟨0, Nat.zero_le _, rfl, rfl, by simpa [halvesTo] using HSP⟩
      case round =>
        clear HSP
        obtain ⟨k, hk', rfl, rfl, HSP⟩ := hrel
        by_cases hkS : k + 1 < S.length
        · obtain ⟨g, scap, rfl, hsc, hsm, hcs⟩ := (unhide HSP).stack (by omega)
          obtain ⟨j, ej⟩ : ∃ j, j = k + 1 := ⟨_, rfl⟩
          have c0 := hcs k (by omega)
          have c1 := hcs j (by omega)
          rw [show S.getD j 0 = S.getD (k + 1) 0 by rw [ej]] at c1
          have j1 : IntKind.i64.wrap ((k : Int) + 1) = (j : Int) := by rw [IntKind.wrap_i64]; omega
          have j2 : (k : Int) + 1 = (j : Int) := by omega
          have j3 : IntKind.i64.wrap (j : Int) = (j : Int) := by rw [IntKind.wrap_i64]; omega
          have j4 : (j : Int) < S.length := by omega
          have HJ := hide ej
          clear ej
          have b0 := (unhide HLV).2 (S.getD k 0) (by rw [getD_lt (show k < S.length by omega)]; exact List.getElem_mem _)
          have b1 := (unhide HLV).2 (S.getD (k + 1) 0) (by rw [getD_lt hkS]; exact List.getElem_mem _)
          have HS1 : Hid (out ++ halvesTo S (k + 1) = out ++ halvesTo S k ++ [(((S.getD (k + 1) 0 - S.getD k 0).natAbs : Int), true)]) := by
            show _ = _
            rw [halvesTo_succ, List.append_assoc]
            congr 4
            omega
          have hol : (out ++ halvesTo S k).length ≤ 402 := by simp [halvesTo_len]; omega
          generalize hx0 : S.getD k 0 = x0 at *
          generalize hx1 : S.getD (k + 1) 0 = x1 at *
          have HX0 := hide hx0
          have HX1 : Hid (S.getD j 0 = x1) := by show _ = _; rw [unhide HJ]; exact hx1
          clear hx0 hx1
          obtain ⟨b0, b0'⟩ := b0
          obtain ⟨b1, b1'⟩ := b1
          have k1 : IntKind.i64.wrap (x1 - x0) = x1 - x0 := by rw [IntKind.wrap_i64]; omega
          have HL3 := hide fun V => l3Size_any (x1 - x0) V (by omega) (by omega)
          generalize ((x1 - x0).natAbs : Int) = Y at *
          generalize out ++ halvesTo S k = ot at *
          have hwr := (unhide HSP).below.size
          have e0 : (k : Int) < S.length := by omega
          have HSO := hide (unhide HSP).o
          unfold maxLen at hsm
          clear hcs
          go_wp2
          go_region_held3 (fun w' => w'.cell? ⟨g, k, none⟩ = some (.int .i64 x0) ∧ w'.cell? ⟨g, j, none⟩ = some (.int .i64 x1)) (go_keep) (first | (go_at_call 64; refine (unhide HL3 _).mono ?_; rintro e w' ⟨rfl, rfl⟩) | (refine step_append_own_at (by rfl) (.tmp 96) (.tmp 109) 35 (by rfl) w.heap.size 38 i0 _ 2 16 Try.underlying35 hi hz0 hz1 hz2 rfl (by decide) u3 ot.length (recCells 2 eSw ot) (by rfl) ((unhide HSO).alloc _).drew ⟨wr.heap.size, 0, none⟩ 1 1 [.int .i64 Y, .bool true] (by rfl) (by rfl) (cell_two_new wr _ _ _) (by simp [Value.oneCell']) (by unfold maxLen; omega) (by omega) (by simp; omega) ?_; intro v' A4 hown hgrow _ hat; have HS4 := hide ((unhide HSP).pushO (s := (Y, true)) (Below.alloc1 _ _).drew hown hgrow hat); have d0 : A4.cell? ⟨g, k, none⟩ = some (.int .i64 x0) := (unhide HS4).cellAt (by omega) (unhide HX0); have d1 : A4.cell? ⟨g, j, none⟩ = some (.int .i64 x1) := (unhide HS4).cellAt (by omega) (unhide HX1); clear hown hgrow hat))
          go_wp2
          go_roundg (S.length - (k + 1))
          case measure => omega
          case rel => exact ⟨k + 1, by omega, rfl, by rw [unhide HJ], by rw [unhide HS1]; exact HS4⟩
        · have hkk : k = S.length - 1 := by omega
          obtain ⟨hsl, a', c', rfl⟩ := ownsRow_ownSw (unhide HSP).o
          have HSL := hide hsl
          have HB2 := hide (unhide HSP).below
          obtain ⟨sa, sc, rfl⟩ := (unhide HSP).form
          have e1 : (S.length : Int) ≤ (k : Int) + 1 := by omega
          have HEE : Hid (out ++ halvesTo S k = swingsOf L) := by
            show _ = _
            rw [unhide HE, hkk]
          clear hsl HSP HE hkk
          generalize out ++ halvesTo S k = ot at *
          go_wp2
          go_ret
          exact ⟨_, _, _, rfl, by rw [← unhide HEE]; exact unhide HSL, unhide HB2⟩

end Go.Proofs.Ytliodmahbdmcbaa
