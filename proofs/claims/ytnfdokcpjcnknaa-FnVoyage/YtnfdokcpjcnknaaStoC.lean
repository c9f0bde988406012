/- Stowage: the specification's l12Fails, reason by reason. Written by wip/mksto2.py. -/
import Derived.Test.YtnfdokcpjcnknaaStoB
namespace Go.Proofs.Ytnfdokcpjcnknaa
open Go.RowKit

set_option maxRecDepth 10000 in
set_option maxHeartbeats 6400000 in
theorem l12Fails1_any (bv lv : Value) (H : List HatchT) (L : List StowT) (i : Nat) (w : World) (hH : RHatch w bv H) (hL : RStow w lv L) (hi : i < L.length) :
    Calls Try.prog 28 #[bv, lv, .int .i64 (i : Int), .int .i64 1] w fun e w' => e = .returned (.bool (failC H L 1 i)) ∧ Below w.heap.size w w' := by
  have HRL := hide hL
  have HRH := hide hH
  obtain ⟨ao, cap, rfl, hl, hm, hc⟩ := hL
  obtain ⟨ho, hcap, rfl, hhl, hhm, hhc⟩ := hH
  unfold maxLen at hm hhm
  have HC := hide hc
  have HHC := hide hhc
  clear hc hhc
  have EF : Hid (failC H L 1 i = f1 L i) := rfl
  have HWr := hide (Below.refl w.heap.size w)
  obtain ⟨b, o, n0, wt, cl, co, fr, to, sx, sy, sz, rfl, hc0, hc1, hc2, hc3, hc4, hc5, hc6, hc7, hc8, EX⟩ := recStowAt (unhide HC) hi
  have g0 := ((unhide HWr).cell (lt_of_cell hc0)).trans hc0
  have g1 := ((unhide HWr).cell (lt_of_cell hc1)).trans hc1
  have g2 := ((unhide HWr).cell (lt_of_cell hc2)).trans hc2
  have g3 := ((unhide HWr).cell (lt_of_cell hc3)).trans hc3
  have g4 := ((unhide HWr).cell (lt_of_cell hc4)).trans hc4
  have g5 := ((unhide HWr).cell (lt_of_cell hc5)).trans hc5
  have g6 := ((unhide HWr).cell (lt_of_cell hc6)).trans hc6
  have g7 := ((unhide HWr).cell (lt_of_cell hc7)).trans hc7
  have g8 := ((unhide HWr).cell (lt_of_cell hc8)).trans hc8
  have ESP : Hid (ssp (stO L i) = (sx, sy, sz)) := by show _ = _; unfold stO; rw [unhide EX]; rfl
  have EBX : Hid (sbx (stO L i) = (n0, wt, cl, co, fr, to)) := by show _ = _; unfold stO; rw [unhide EX]; rfl
  clear hc0 hc1 hc2 hc3 hc4 hc5 hc6 hc7 hc8
  have hii : (i : Int) < L.length := by omega
  have EB : Hid (failC H L 1 i = !(boxB n0 wt cl fr to)) := by show _ = _; rw [unhide EF]; unfold f1 boxT; rw [unhide EBX]
  have QB := hide fun V => specBoxOk_any n0 wt cl co fr to V
  unfold vBox at QB
  obtain ⟨V0, eV⟩ : ∃ V, V = ((w.alloc (.cells #[.string n0, .int .i64 wt, .int .i64 cl, .bool co, .int .i64 fr, .int .i64 to, .int .i64 sx, .int .i64 sy, .int .i64 sz] 40)).alloc (.cells #[.int .i64 sx, .int .i64 sy, .int .i64 sz] 38)) := ⟨_, rfl⟩
  have HW : Hid (Below w.heap.size w V0) := by show Below _ _ _; rw [eV]; exact Below.step (Below.alloc1 _ _) (Below.alloc1 _ _)
  have HX : Hid (OwnV V0 w.heap.size [.string n0, .int .i64 wt, .int .i64 cl, .bool co, .int .i64 fr, .int .i64 to, .int .i64 sx, .int .i64 sy, .int .i64 sz]) := by
    show OwnV _ _ _
    rw [eV]
    exact OwnV.alloc (ownV_alloc w #[.string n0, .int .i64 wt, .int .i64 cl, .bool co, .int .i64 fr, .int .i64 to, .int .i64 sx, .int .i64 sy, .int .i64 sz] 40) _
  have HS : Hid (OwnV V0 (w.heap.size + 1) [.int .i64 sx, .int .i64 sy, .int .i64 sz]) := by
    show OwnV _ _ _
    rw [eV]
    have h := ownV_alloc (w.alloc (.cells #[.string n0, .int .i64 wt, .int .i64 cl, .bool co, .int .i64 fr, .int .i64 to, .int .i64 sx, .int .i64 sy, .int .i64 sz] 40)) #[.int .i64 sx, .int .i64 sy, .int .i64 sz] 38
    simp only [World.size_alloc] at h
    exact h
  clear EF EBX ESP EX HX HS HRL HRH HC HHC
  generalize boxB n0 wt cl fr to = r at *
  go_enter Try.func28, Try.ntmps28
  go_wp2_with fail
  rw [← eV]
  clear eV
  refine (unhide QB _).mono ?_
  rintro e w1 ⟨rfl, hb⟩
  replace HW := hide (Below.step (unhide HW) hb)
  clear hb QB
  go_wp2
  go_ret
  exact ⟨by rw [unhide EB]; rfl, unhide HW⟩

set_option maxRecDepth 10000 in
set_option maxHeartbeats 6400000 in
theorem l12Fails4_any (bv lv : Value) (H : List HatchT) (L : List StowT) (i : Nat) (w : World) (hH : RHatch w bv H) (hL : RStow w lv L) (hi : i < L.length) (hh : hatB H = true) (h3 : f3 H L i = false) :
    Calls Try.prog 28 #[bv, lv, .int .i64 (i : Int), .int .i64 4] w fun e w' => e = .returned (.bool (failC H L 4 i)) ∧ Below w.heap.size w w' := by
  have HRL := hide hL
  have HRH := hide hH
  obtain ⟨ao, cap, rfl, hl, hm, hc⟩ := hL
  obtain ⟨ho, hcap, rfl, hhl, hhm, hhc⟩ := hH
  unfold maxLen at hm hhm
  have HC := hide hc
  have HHC := hide hhc
  clear hc hhc
  have EF : Hid (failC H L 4 i = f4 L i) := rfl
  have HWr := hide (Below.refl w.heap.size w)
  obtain ⟨b, o, n0, wt, cl, co, fr, to, sx, sy, sz, rfl, hc0, hc1, hc2, hc3, hc4, hc5, hc6, hc7, hc8, EX⟩ := recStowAt (unhide HC) hi
  have g0 := ((unhide HWr).cell (lt_of_cell hc0)).trans hc0
  have g1 := ((unhide HWr).cell (lt_of_cell hc1)).trans hc1
  have g2 := ((unhide HWr).cell (lt_of_cell hc2)).trans hc2
  have g3 := ((unhide HWr).cell (lt_of_cell hc3)).trans hc3
  have g4 := ((unhide HWr).cell (lt_of_cell hc4)).trans hc4
  have g5 := ((unhide HWr).cell (lt_of_cell hc5)).trans hc5
  have g6 := ((unhide HWr).cell (lt_of_cell hc6)).trans hc6
  have g7 := ((unhide HWr).cell (lt_of_cell hc7)).trans hc7
  have g8 := ((unhide HWr).cell (lt_of_cell hc8)).trans hc8
  have ESP : Hid (ssp (stO L i) = (sx, sy, sz)) := by show _ = _; unfold stO; rw [unhide EX]; rfl
  have EBX : Hid (sbx (stO L i) = (n0, wt, cl, co, fr, to)) := by show _ = _; unfold stO; rw [unhide EX]; rfl
  clear hc0 hc1 hc2 hc3 hc4 hc5 hc6 hc7 hc8
  have hii : (i : Int) < L.length := by omega
  have hbd := f3_bd hh (i := i) (L := L) h3
  rw [unhide ESP] at hbd
  dsimp only at hbd
  have hsz6 : sz < 6 := by omega
  clear hbd h3
  have EB : Hid (failC H L 4 i = (decide (0 < sz) && !hasB L (sx, sy, sz - 1))) := by show _ = _; rw [unhide EF]; unfold f4; rw [unhide ESP]
  obtain ⟨V0, eV⟩ : ∃ V, V = ((w.alloc (.cells #[.string n0, .int .i64 wt, .int .i64 cl, .bool co, .int .i64 fr, .int .i64 to, .int .i64 sx, .int .i64 sy, .int .i64 sz] 40)).alloc (.cells #[.int .i64 sx, .int .i64 sy, .int .i64 sz] 38)) := ⟨_, rfl⟩
  have HW : Hid (Below w.heap.size w V0) := by show Below _ _ _; rw [eV]; exact Below.step (Below.alloc1 _ _) (Below.alloc1 _ _)
  have HX : Hid (OwnV V0 w.heap.size [.string n0, .int .i64 wt, .int .i64 cl, .bool co, .int .i64 fr, .int .i64 to, .int .i64 sx, .int .i64 sy, .int .i64 sz]) := by
    show OwnV _ _ _
    rw [eV]
    exact OwnV.alloc (ownV_alloc w #[.string n0, .int .i64 wt, .int .i64 cl, .bool co, .int .i64 fr, .int .i64 to, .int .i64 sx, .int .i64 sy, .int .i64 sz] 40) _
  have HS : Hid (OwnV V0 (w.heap.size + 1) [.int .i64 sx, .int .i64 sy, .int .i64 sz]) := by
    show OwnV _ _ _
    rw [eV]
    have h := ownV_alloc (w.alloc (.cells #[.string n0, .int .i64 wt, .int .i64 cl, .bool co, .int .i64 fr, .int .i64 to, .int .i64 sx, .int .i64 sy, .int .i64 sz] 40)) #[.int .i64 sx, .int .i64 sy, .int .i64 sz] 38
    simp only [World.size_alloc] at h
    exact h
  clear EF EBX ESP EX HX HC HHC
  by_cases hz : 0 < sz
  · have hzd : decide (0 < sz) = true := by simp [hz]
    have QA := hide fun V (hV : RStow V (.slice (some ⟨b, o, none⟩) L.length cap) L) => l12At_any _ L sx sy (sz - 1) V hV
    unfold v3 at QA
    have EN : Hid (hasB L (sx, sy, sz - 1) = false → atV L (sx, sy, sz - 1) = -1) := atV_not
    have EH : Hid (hasB L (sx, sy, sz - 1) = true → 0 ≤ atV L (sx, sy, sz - 1)) := fun h => by obtain ⟨k, _, _, e, _⟩ := atV_has h; omega
    rw [hzd] at EB
    have z0 := (unhide HS).cell (i := 0) rfl
    have hzn : ¬ sz ≤ 0 := by omega
    obtain ⟨zz, ezz⟩ : ∃ z, z = sz - 1 := ⟨_, rfl⟩
    rw [← ezz] at QA EN EH EB
    have q1 : IntKind.i64.wrap (sz - 1) = zz := by rw [ezz, IntKind.wrap_i64]; omega
    clear ezz z0
    go_enter Try.func28, Try.ntmps28
    go_wp2_with fail
    rw [← eV]
    clear eV
    refine (unhide QA _ ((unhide HRL).below (unhide HW))).mono ?_
    rintro e w1 ⟨rfl, hb⟩
    replace HW := hide (Below.step (unhide HW) hb)
    clear hb QA
    cases hh : hasB L (sx, sy, zz) with
    | true =>
      rw [hh] at EB
      have h0 := unhide EH hh
      generalize atV L (sx, sy, zz) = a at *
      have ha : decide (a < 0) = false := by simp; omega
      clear EH EN h0
      go_wp2
      go_ret
      exact ⟨by rw [unhide EB]; rfl, unhide HW⟩
    | false =>
      rw [hh] at EB
      rw [unhide EN hh]
      go_wp2
      go_ret
      exact ⟨by rw [unhide EB]; rfl, unhide HW⟩
  · have hzd : decide (0 < sz) = false := by simp; omega
    rw [hzd] at EB
    go_enter Try.func28, Try.ntmps28
    go_wp2
    go_ret
    exact ⟨by rw [unhide EB]; rfl, eV ▸ unhide HW⟩

theorem f2_hit {L : List StowT} {i k : Nat} (hk : k < i) (h : nmS (stO L k) = nmS (stO L i) ∨ ssp (stO L k) = ssp (stO L i)) : f2 L i = true := by
  simp only [f2, decide_eq_true_eq]
  exact ⟨k, hk, h⟩
theorem f2_none {L : List StowT} {i : Nat} (h : ∀ k, k < i → nmS (stO L k) ≠ nmS (stO L i) ∧ ssp (stO L k) ≠ ssp (stO L i)) : f2 L i = false := by
  simp only [f2, decide_eq_false_iff_not]
  rintro ⟨k, hk, e | e⟩
  · exact (h k hk).1 e
  · exact (h k hk).2 e

set_option maxRecDepth 10000 in
set_option maxHeartbeats 6400000 in
theorem l12Fails2_any (bv lv : Value) (H : List HatchT) (L : List StowT) (i : Nat) (w : World) (hH : RHatch w bv H) (hL : RStow w lv L) (hi : i < L.length) :
    Calls Try.prog 28 #[bv, lv, .int .i64 (i : Int), .int .i64 2] w fun e w' => e = .returned (.bool (failC H L 2 i)) ∧ Below w.heap.size w w' := by
  have HRL := hide hL
  have HRH := hide hH
  obtain ⟨ao, cap, rfl, hl, hm, hc⟩ := hL
  obtain ⟨ho, hcap, rfl, hhl, hhm, hhc⟩ := hH
  unfold maxLen at hm hhm
  have HC := hide hc
  have HHC := hide hhc
  clear hc hhc
  have EF : Hid (failC H L 2 i = f2 L i) := rfl
  have HWr := hide (Below.refl w.heap.size w)
  obtain ⟨b, o, n0, wt, cl, co, fr, to, sx, sy, sz, rfl, hc0, hc1, hc2, hc3, hc4, hc5, hc6, hc7, hc8, EX⟩ := recStowAt (unhide HC) hi
  have g0 := ((unhide HWr).cell (lt_of_cell hc0)).trans hc0
  have g1 := ((unhide HWr).cell (lt_of_cell hc1)).trans hc1
  have g2 := ((unhide HWr).cell (lt_of_cell hc2)).trans hc2
  have g3 := ((unhide HWr).cell (lt_of_cell hc3)).trans hc3
  have g4 := ((unhide HWr).cell (lt_of_cell hc4)).trans hc4
  have g5 := ((unhide HWr).cell (lt_of_cell hc5)).trans hc5
  have g6 := ((unhide HWr).cell (lt_of_cell hc6)).trans hc6
  have g7 := ((unhide HWr).cell (lt_of_cell hc7)).trans hc7
  have g8 := ((unhide HWr).cell (lt_of_cell hc8)).trans hc8
  have ESP : Hid (ssp (stO L i) = (sx, sy, sz)) := by show _ = _; unfold stO; rw [unhide EX]; rfl
  have EBX : Hid (sbx (stO L i) = (n0, wt, cl, co, fr, to)) := by show _ = _; unfold stO; rw [unhide EX]; rfl
  clear hc0 hc1 hc2 hc3 hc4 hc5 hc6 hc7 hc8
  have hii : (i : Int) < L.length := by omega
  obtain ⟨V0, eV⟩ : ∃ V, V = ((w.alloc (.cells #[.string n0, .int .i64 wt, .int .i64 cl, .bool co, .int .i64 fr, .int .i64 to, .int .i64 sx, .int .i64 sy, .int .i64 sz] 40)).alloc (.cells #[.int .i64 sx, .int .i64 sy, .int .i64 sz] 38)) := ⟨_, rfl⟩
  have HW : Hid (Below w.heap.size w V0) := by show Below _ _ _; rw [eV]; exact Below.step (Below.alloc1 _ _) (Below.alloc1 _ _)
  have HX : Hid (OwnV V0 w.heap.size [.string n0, .int .i64 wt, .int .i64 cl, .bool co, .int .i64 fr, .int .i64 to, .int .i64 sx, .int .i64 sy, .int .i64 sz]) := by
    show OwnV _ _ _
    rw [eV]
    exact OwnV.alloc (ownV_alloc w #[.string n0, .int .i64 wt, .int .i64 cl, .bool co, .int .i64 fr, .int .i64 to, .int .i64 sx, .int .i64 sy, .int .i64 sz] 40) _
  have HS : Hid (OwnV V0 (w.heap.size + 1) [.int .i64 sx, .int .i64 sy, .int .i64 sz]) := by
    show OwnV _ _ _
    rw [eV]
    have h := ownV_alloc (w.alloc (.cells #[.string n0, .int .i64 wt, .int .i64 cl, .bool co, .int .i64 fr, .int .i64 to, .int .i64 sx, .int .i64 sy, .int .i64 sz] 40)) #[.int .i64 sx, .int .i64 sy, .int .i64 sz] 38
    simp only [World.size_alloc] at h
    exact h
  have ENM : Hid (nmS (stO L i) = n0) := by show _ = _; unfold nmS stO; rw [unhide EX]
  have E1 : Hid ((∀ k, k < i → nmS (stO L k) ≠ nmS (stO L i) ∧ ssp (stO L k) ≠ ssp (stO L i)) → failC H L 2 i = false) := fun h => (unhide EF).trans (f2_none h)
  have E2 : Hid (∀ k, k < i → nmS (stO L k) = nmS (stO L i) ∨ ssp (stO L k) = ssp (stO L i) → failC H L 2 i = true) := fun k hk h => (unhide EF).trans (f2_hit hk h)
  rw [unhide ENM, unhide ESP] at E1 E2
  clear EF EBX EX HHC HRL HRH ENM ESP
  go_enter Try.func28, Try.ntmps28
  go_wp2
  go_loopg [11] i (fun g iv wr => ∃ k : Nat, k ≤ i ∧ g = i - k ∧ iv = .int .i64 k ∧ Hid (∀ r, r < k → nmS (stO L r) ≠ n0 ∧ ssp (stO L r) ≠ (sx, sy, sz)) ∧ Hid (Below w.heap.size w wr) ∧ Hid (OwnV wr w.heap.size [.string n0, .int .i64 wt, .int .i64 cl, .bool co, .int .i64 fr, .int .i64 to, .int .i64 sx, .int .i64 sy, .int .i64 sz]) ∧ Hid (OwnV wr (w.heap.size + 1) [.int .i64 sx, .int .i64 sy, .int .i64 sz]))
  case atStart => exact ⟨0, Nat.zero_le _, rfl, rfl, fun r hr => by omega, eV ▸ unhide HW, eV ▸ unhide HX, eV ▸ unhide HS⟩
  case round =>
    clear HW HX HS eV
    obtain ⟨k, hk, rfl, rfl, HA, HW, HX, HS⟩ := hrel
    by_cases hkn : k < i
    · have hkl : k < L.length := by omega
      have HAk := hide (unhide E2 k hkn)
      obtain ⟨b', o', n0', wt', cl', co', fr', to', sx', sy', sz', eBO, hc0, hc1, hc2, hc3, hc4, hc5, hc6, hc7, hc8, EX'⟩ := recStowAt (unhide HC) hkl
      simp only [Option.some.injEq, Addr.mk.injEq, and_true] at eBO
      obtain ⟨rfl, rfl⟩ := eBO
      have e0 := ((unhide HW).cell (lt_of_cell hc0)).trans hc0
      have e1 := ((unhide HW).cell (lt_of_cell hc1)).trans hc1
      have e2 := ((unhide HW).cell (lt_of_cell hc2)).trans hc2
      have e3 := ((unhide HW).cell (lt_of_cell hc3)).trans hc3
      have e4 := ((unhide HW).cell (lt_of_cell hc4)).trans hc4
      have e5 := ((unhide HW).cell (lt_of_cell hc5)).trans hc5
      have e6 := ((unhide HW).cell (lt_of_cell hc6)).trans hc6
      have e7 := ((unhide HW).cell (lt_of_cell hc7)).trans hc7
      have e8 := ((unhide HW).cell (lt_of_cell hc8)).trans hc8
      have ESP' : Hid (ssp (stO L k) = (sx', sy', sz')) := by show _ = _; unfold stO; rw [unhide EX']; rfl
      have EBX' : Hid (sbx (stO L k) = (n0', wt', cl', co', fr', to')) := by show _ = _; unfold stO; rw [unhide EX']; rfl
      clear hc0 hc1 hc2 hc3 hc4 hc5 hc6 hc7 hc8
      have ENM : Hid (nmS (stO L k) = n0') := by show _ = _; unfold nmS stO; rw [unhide EX']
      rw [unhide ENM, unhide ESP'] at HAk
      have HA1 : Hid (n0' ≠ n0 → ((sx', sy', sz') : I3) ≠ (sx, sy, sz) → ∀ r, r < k + 1 → nmS (stO L r) ≠ n0 ∧ ssp (stO L r) ≠ (sx, sy, sz)) := fun h h' r hr => by
        by_cases e : r = k
        · rw [e, unhide ENM, unhide ESP']; exact ⟨h, h'⟩
        · exact unhide HA r (by omega)
      have x0 := (unhide HX).cell (i := 0) rfl
      have k0 := (unhide HS).cell (i := 0) rfl
      have k1 := (unhide HS).cell (i := 1) rfl
      have k2 := (unhide HS).cell (i := 2) rfl
      have hEq := eql_spot sx' sy' sz' sx sy sz
      have hGd := fun u v w => run_eqGuard_agg (P := Try.prog) w .eql 38 u v #[.int .i64 sx', .int .i64 sy', .int .i64 sz'] #[.int .i64 sx, .int .i64 sy, .int .i64 sz] Try.eqgSpot
      rw [spot_eq] at hEq
      have hki : (k : Int) < i := by omega
      have hkl2 : (k : Int) < L.length := by omega
      clear EX' EBX' ESP' ENM e1 e2 e3 e4 e5 E2 HA
      by_cases hn : n0' = n0
      · have hn1 : (n0'.toList == n0.toList) = true := by rw [name_eq]; simp [hn]
        have E := hide (unhide HAk (Or.inl hn))
        clear HAk HA1 E1 hn
        go_wp2
        go_quiet (fail)
        go_wp2
        go_ret
        exact ⟨by rw [unhide E]; rfl, by first | exact unhide HW | exact below_drewN (unhide HW) _⟩
      · have hn1 : (n0'.toList == n0.toList) = false := by rw [name_eq]; simp [hn]
        by_cases hd : ((sx', sy', sz') : I3) = (sx, sy, sz)
        · rw [decide_eq_true hd] at hEq
          have E := hide (unhide HAk (Or.inr hd))
          clear HAk HA1 E1 hn hd
          go_wp2
          go_quiet (fail)
          go_wp2
          go_ret
          exact ⟨by rw [unhide E]; rfl, by first | exact unhide HW | exact below_drewN (unhide HW) _⟩
        · rw [decide_eq_false hd] at hEq
          replace HA1 := hide (unhide HA1 hn hd)
          clear HAk hn hd
          go_wp2
          go_quiet (fail)
          go_wp2
          go_roundg (i - (k + 1))
          case measure => omega
          case rel => first | exact ⟨k + 1, by omega, rfl, by go_num, unhide HA1, unhide HW, unhide HX, unhide HS⟩ | exact ⟨k + 1, by omega, rfl, by go_num, unhide HA1, below_drewN (unhide HW) _, unhide HX, unhide HS⟩
    · have hki : ¬ (k : Int) < i := by omega
      have hkk : k = i := by omega
      have E := hide (unhide E1 (by rw [← hkk]; exact unhide HA))
      clear hkk E1 E2
      go_wp2
      go_ret
      exact ⟨by rw [unhide E]; rfl, unhide HW⟩

set_option maxRecDepth 10000 in
set_option maxHeartbeats 6400000 in
theorem l12Fails3_any (bv lv : Value) (H : List HatchT) (L : List StowT) (i : Nat) (w : World) (hH : RHatch w bv H) (hL : RStow w lv L) (hi : i < L.length) (hh : hatB H = true) :
    Calls Try.prog 28 #[bv, lv, .int .i64 (i : Int), .int .i64 3] w fun e w' => e = .returned (.bool (failC H L 3 i)) ∧ Below w.heap.size w w' := by
  have HRL := hide hL
  have HRH := hide hH
  obtain ⟨ao, cap, rfl, hl, hm, hc⟩ := hL
  obtain ⟨ho, hcap, rfl, hhl, hhm, hhc⟩ := hH
  unfold maxLen at hm hhm
  have HC := hide hc
  have HHC := hide hhc
  clear hc hhc
  have EF : Hid (failC H L 3 i = f3 H L i) := rfl
  have HWr := hide (Below.refl w.heap.size w)
  obtain ⟨b, o, n0, wt, cl, co, fr, to, sx, sy, sz, rfl, hc0, hc1, hc2, hc3, hc4, hc5, hc6, hc7, hc8, EX⟩ := recStowAt (unhide HC) hi
  have g0 := ((unhide HWr).cell (lt_of_cell hc0)).trans hc0
  have g1 := ((unhide HWr).cell (lt_of_cell hc1)).trans hc1
  have g2 := ((unhide HWr).cell (lt_of_cell hc2)).trans hc2
  have g3 := ((unhide HWr).cell (lt_of_cell hc3)).trans hc3
  have g4 := ((unhide HWr).cell (lt_of_cell hc4)).trans hc4
  have g5 := ((unhide HWr).cell (lt_of_cell hc5)).trans hc5
  have g6 := ((unhide HWr).cell (lt_of_cell hc6)).trans hc6
  have g7 := ((unhide HWr).cell (lt_of_cell hc7)).trans hc7
  have g8 := ((unhide HWr).cell (lt_of_cell hc8)).trans hc8
  have ESP : Hid (ssp (stO L i) = (sx, sy, sz)) := by show _ = _; unfold stO; rw [unhide EX]; rfl
  have EBX : Hid (sbx (stO L i) = (n0, wt, cl, co, fr, to)) := by show _ = _; unfold stO; rw [unhide EX]; rfl
  clear hc0 hc1 hc2 hc3 hc4 hc5 hc6 hc7 hc8
  have hii : (i : Int) < L.length := by omega
  obtain ⟨V0, eV⟩ : ∃ V, V = ((w.alloc (.cells #[.string n0, .int .i64 wt, .int .i64 cl, .bool co, .int .i64 fr, .int .i64 to, .int .i64 sx, .int .i64 sy, .int .i64 sz] 40)).alloc (.cells #[.int .i64 sx, .int .i64 sy, .int .i64 sz] 38)) := ⟨_, rfl⟩
  have HW : Hid (Below w.heap.size w V0) := by show Below _ _ _; rw [eV]; exact Below.step (Below.alloc1 _ _) (Below.alloc1 _ _)
  have HX : Hid (OwnV V0 w.heap.size [.string n0, .int .i64 wt, .int .i64 cl, .bool co, .int .i64 fr, .int .i64 to, .int .i64 sx, .int .i64 sy, .int .i64 sz]) := by
    show OwnV _ _ _
    rw [eV]
    exact OwnV.alloc (ownV_alloc w #[.string n0, .int .i64 wt, .int .i64 cl, .bool co, .int .i64 fr, .int .i64 to, .int .i64 sx, .int .i64 sy, .int .i64 sz] 40) _
  have HS : Hid (OwnV V0 (w.heap.size + 1) [.int .i64 sx, .int .i64 sy, .int .i64 sz]) := by
    show OwnV _ _ _
    rw [eV]
    have h := ownV_alloc (w.alloc (.cells #[.string n0, .int .i64 wt, .int .i64 cl, .bool co, .int .i64 fr, .int .i64 to, .int .i64 sx, .int .i64 sy, .int .i64 sz] 40)) #[.int .i64 sx, .int .i64 sy, .int .i64 sz] 38
    simp only [World.size_alloc] at h
    exact h
  have EB : Hid (failC H L 3 i = !(inB sx 0 ((H.length : Int) - 1) && inB sy 0 ((hO H sx).1 - 1) && inB sz 0 ((hO H sx).2.1 - 1))) := by show _ = _; rw [unhide EF]; unfold f3 spIn; rw [unhide ESP]
  have s0 := (unhide HS).cell (i := 0) rfl
  have s1 := (unhide HS).cell (i := 1) rfl
  have s2 := (unhide HS).cell (i := 2) rfl
  have hlen := hatB_len hh
  obtain ⟨hln0, hln1⟩ := hlen
  have q0 : IntKind.i64.wrap ((H.length : Int) - 1) = (H.length : Int) - 1 := by rw [IntKind.wrap_i64]; omega
  have same := fun (x a b : Int) (X : Gr V0) => (l1In_any x a b X.val).mono fun e w' ⟨h, h'⟩ => (⟨h, h' ▸ Below.refl _ _⟩ : _ ∧ Below X.val.heap.size X.val w')
  have S0 := hide fun X : Gr V0 => same sx 0 ((H.length : Int) - 1) X
  clear EF EBX EX HRL HRH ESP HX
  cases h0 : inB sx 0 ((H.length : Int) - 1) with
  | false =>
    rw [h0] at EB S0
    have r0 := fun X : Gr V0 => gr_cell s0 X
    have r1 := fun X : Gr V0 => gr_cell s1 X
    have r2 := fun X : Gr V0 => gr_cell s2 X
    have gsome := gr_some V0
    go_enter Try.func28, Try.ntmps28
    go_wp2
    rw [← eV]
    clear eV
    refine wp_region_grown (by kernel_rfl) (by kernel_rfl) ?_
    repeat (go_big_quiet_step (fail))
    go_big_quiet_want
    go_big_quiet_op
    go_big_quiet_call (exact calls_grown (unhide S0 _))
    repeat (go_big_quiet_step (fail))
    refine wpQuiet_nil ?_
    intro w1 hw1
    obtain ⟨zq, hz⟩ := hw1
    have hb : Below V0.heap.size V0 w1 := hz ▸ zq.ok
    clear hz gsome
    replace HW := hide (Below.step (unhide HW) hb)
    clear hb
    go_wp2
    go_ret
    exact ⟨by rw [unhide EB]; rfl, unhide HW⟩
  | true =>
  rw [h0] at EB S0
  have hb0 := inB_true h0
  obtain ⟨bn, ebn⟩ : ∃ b : Nat, sx = (b : Int) := ⟨sx.toNat, by omega⟩
  subst ebn
  have hbn : bn < H.length := by omega
  have HAT1 := hide (hatB_at hh hbn)
  obtain ⟨hb', ho', x0, x1, x2, x3, rfl, hc0, hc1, hc2, hc3, EH⟩ := recHatchAt (unhide HHC) hbn
  have HOE : Hid (hO H (bn : Int) = (x0, x1, x2, x3)) := by show _ = _; unfold hO; rw [Int.toNat_natCast]; exact unhide EH
  have v0 := ((unhide HW).cell (lt_of_cell hc0)).trans hc0
  have v1 := ((unhide HW).cell (lt_of_cell hc1)).trans hc1
  have v2 := ((unhide HW).cell (lt_of_cell hc2)).trans hc2
  have v3' := ((unhide HW).cell (lt_of_cell hc3)).trans hc3
  have hbni : (bn : Int) < H.length := by omega
  clear hc0 hc1 hc2 hc3 EH

  have HAT2 : Hid (hat1 (x0, x1, x2, x3) = true) := by
    have h := unhide HAT1
    have e := unhide HOE
    unfold hO at e
    rw [Int.toNat_natCast] at e
    rw [e] at h
    exact h
  have hx01 : (1 ≤ x0 ∧ x0 ≤ 6) ∧ 1 ≤ x1 ∧ x1 ≤ 6 := by
    have h := unhide HAT2
    simp only [hat1, Bool.and_eq_true] at h
    exact ⟨inB_true h.1.1.1, inB_true h.1.1.2⟩
  obtain ⟨⟨y0, y1⟩, y2, y3⟩ := hx01
  rw [unhide HOE] at EB
  dsimp only at EB
  have q1 : IntKind.i64.wrap (x0 - 1) = x0 - 1 := by rw [IntKind.wrap_i64]; omega
  have q2 : IntKind.i64.wrap (x1 - 1) = x1 - 1 := by rw [IntKind.wrap_i64]; omega
  have S1 := hide fun X : Gr V0 => same sy 0 (x0 - 1) X
  have S2 := hide fun X : Gr V0 => same sz 0 (x1 - 1) X
  have rv0 := fun X : Gr V0 => gr_cell v0 X
  have rv1 := fun X : Gr V0 => gr_cell v1 X
  clear HAT1 HAT2 HOE hb0 h0
  cases h1 : inB sy 0 (x0 - 1) with
  | false =>
    rw [h1] at EB S1
    have r0 := fun X : Gr V0 => gr_cell s0 X
    have r1 := fun X : Gr V0 => gr_cell s1 X
    have r2 := fun X : Gr V0 => gr_cell s2 X
    have gsome := gr_some V0
    go_enter Try.func28, Try.ntmps28
    go_wp2
    rw [← eV]
    clear eV
    refine wp_region_grown (by kernel_rfl) (by kernel_rfl) ?_
    repeat (go_big_quiet_step (fail))
    go_big_quiet_want
    go_big_quiet_op
    go_big_quiet_call (exact calls_grown (unhide S0 _))
    repeat (go_big_quiet_step (fail))
    go_big_quiet_want
    go_big_quiet_op
    go_big_quiet_call (exact calls_grown (unhide S1 _))
    repeat (go_big_quiet_step (fail))
    refine wpQuiet_nil ?_
    intro w1 hw1
    obtain ⟨zq, hz⟩ := hw1
    have hb : Below V0.heap.size V0 w1 := hz ▸ zq.ok
    clear hz gsome
    replace HW := hide (Below.step (unhide HW) hb)
    clear hb
    go_wp2
    go_ret
    exact ⟨by rw [unhide EB]; rfl, unhide HW⟩
  | true =>
  rw [h1] at EB S1
  generalize inB sz 0 (x1 - 1) = r at *
  have r0 := fun X : Gr V0 => gr_cell s0 X
  have r1 := fun X : Gr V0 => gr_cell s1 X
  have r2 := fun X : Gr V0 => gr_cell s2 X
  have gsome := gr_some V0
  go_enter Try.func28, Try.ntmps28
  go_wp2
  rw [← eV]
  clear eV
  refine wp_region_grown (by kernel_rfl) (by kernel_rfl) ?_
  repeat (go_big_quiet_step (fail))
  go_big_quiet_want
  go_big_quiet_op
  go_big_quiet_call (exact calls_grown (unhide S0 _))
  repeat (go_big_quiet_step (fail))
  go_big_quiet_want
  go_big_quiet_op
  go_big_quiet_call (exact calls_grown (unhide S1 _))
  repeat (go_big_quiet_step (fail))
  go_big_quiet_want
  go_big_quiet_op
  go_big_quiet_call (exact calls_grown (unhide S2 _))
  repeat (go_big_quiet_step (fail))
  refine wpQuiet_nil ?_
  intro w1 hw1
  obtain ⟨zq, hz⟩ := hw1
  have hb : Below V0.heap.size V0 w1 := hz ▸ zq.ok
  clear hz gsome
  replace HW := hide (Below.step (unhide HW) hb)
  clear hb
  go_wp2
  go_ret
  exact ⟨by rw [unhide EB]; rfl, unhide HW⟩

set_option maxRecDepth 10000 in
set_option maxHeartbeats 6400000 in
theorem l12Fails5_any (bv lv : Value) (H : List HatchT) (L : List StowT) (i : Nat) (w : World) (hH : RHatch w bv H) (hL : RStow w lv L) (hi : i < L.length) (hh : hatB H = true) (h3 : f3 H L i = false) :
    Calls Try.prog 28 #[bv, lv, .int .i64 (i : Int), .int .i64 5] w fun e w' => e = .returned (.bool (failC H L 5 i)) ∧ Below w.heap.size w w' := by
  have HRL := hide hL
  have HRH := hide hH
  obtain ⟨ao, cap, rfl, hl, hm, hc⟩ := hL
  obtain ⟨ho, hcap, rfl, hhl, hhm, hhc⟩ := hH
  unfold maxLen at hm hhm
  have HC := hide hc
  have HHC := hide hhc
  clear hc hhc
  have EF : Hid (failC H L 5 i = f5 H L i) := rfl
  have HWr := hide (Below.refl w.heap.size w)
  obtain ⟨b, o, n0, wt, cl, co, fr, to, sx, sy, sz, rfl, hc0, hc1, hc2, hc3, hc4, hc5, hc6, hc7, hc8, EX⟩ := recStowAt (unhide HC) hi
  have g0 := ((unhide HWr).cell (lt_of_cell hc0)).trans hc0
  have g1 := ((unhide HWr).cell (lt_of_cell hc1)).trans hc1
  have g2 := ((unhide HWr).cell (lt_of_cell hc2)).trans hc2
  have g3 := ((unhide HWr).cell (lt_of_cell hc3)).trans hc3
  have g4 := ((unhide HWr).cell (lt_of_cell hc4)).trans hc4
  have g5 := ((unhide HWr).cell (lt_of_cell hc5)).trans hc5
  have g6 := ((unhide HWr).cell (lt_of_cell hc6)).trans hc6
  have g7 := ((unhide HWr).cell (lt_of_cell hc7)).trans hc7
  have g8 := ((unhide HWr).cell (lt_of_cell hc8)).trans hc8
  have ESP : Hid (ssp (stO L i) = (sx, sy, sz)) := by show _ = _; unfold stO; rw [unhide EX]; rfl
  have EBX : Hid (sbx (stO L i) = (n0, wt, cl, co, fr, to)) := by show _ = _; unfold stO; rw [unhide EX]; rfl
  clear hc0 hc1 hc2 hc3 hc4 hc5 hc6 hc7 hc8
  have hii : (i : Int) < L.length := by omega
  obtain ⟨V0, eV⟩ : ∃ V, V = ((w.alloc (.cells #[.string n0, .int .i64 wt, .int .i64 cl, .bool co, .int .i64 fr, .int .i64 to, .int .i64 sx, .int .i64 sy, .int .i64 sz] 40)).alloc (.cells #[.int .i64 sx, .int .i64 sy, .int .i64 sz] 38)) := ⟨_, rfl⟩
  have HW : Hid (Below w.heap.size w V0) := by show Below _ _ _; rw [eV]; exact Below.step (Below.alloc1 _ _) (Below.alloc1 _ _)
  have HX : Hid (OwnV V0 w.heap.size [.string n0, .int .i64 wt, .int .i64 cl, .bool co, .int .i64 fr, .int .i64 to, .int .i64 sx, .int .i64 sy, .int .i64 sz]) := by
    show OwnV _ _ _
    rw [eV]
    exact OwnV.alloc (ownV_alloc w #[.string n0, .int .i64 wt, .int .i64 cl, .bool co, .int .i64 fr, .int .i64 to, .int .i64 sx, .int .i64 sy, .int .i64 sz] 40) _
  have HS : Hid (OwnV V0 (w.heap.size + 1) [.int .i64 sx, .int .i64 sy, .int .i64 sz]) := by
    show OwnV _ _ _
    rw [eV]
    have h := ownV_alloc (w.alloc (.cells #[.string n0, .int .i64 wt, .int .i64 cl, .bool co, .int .i64 fr, .int .i64 to, .int .i64 sx, .int .i64 sy, .int .i64 sz] 40)) #[.int .i64 sx, .int .i64 sy, .int .i64 sz] 38
    simp only [World.size_alloc] at h
    exact h
  have hbd := f3_bd hh (i := i) (L := L) h3
  rw [unhide ESP] at hbd
  dsimp only at hbd
  obtain ⟨⟨bd0, bd1⟩, ⟨bd2, bd3⟩, bd4, bd5⟩ := hbd
  obtain ⟨bn, ebn⟩ : ∃ b : Nat, sx = (b : Int) := ⟨sx.toNat, by omega⟩
  subst ebn
  have hbn : bn < H.length := by omega
  obtain ⟨hb', ho', x0, x1, x2, x3, rfl, hc0, hc1, hc2, hc3, EH⟩ := recHatchAt (unhide HHC) hbn
  have HOE : Hid (hO H (bn : Int) = (x0, x1, x2, x3)) := by show _ = _; unfold hO; rw [Int.toNat_natCast]; exact unhide EH
  have v0 := ((unhide HW).cell (lt_of_cell hc0)).trans hc0
  have v1 := ((unhide HW).cell (lt_of_cell hc1)).trans hc1
  have v2 := ((unhide HW).cell (lt_of_cell hc2)).trans hc2
  have v3' := ((unhide HW).cell (lt_of_cell hc3)).trans hc3
  have hbni : (bn : Int) < H.length := by omega
  clear hc0 hc1 hc2 hc3 EH
  have EB : Hid (failC H L 5 i = !stackB (stkL L (bn : Int) sy) x2) := by show _ = _; rw [unhide EF]; unfold f5; rw [unhide ESP]; dsimp only; rw [unhide HOE]
  have s0 := (unhide HS).cell (i := 0) rfl
  have s1 := (unhide HS).cell (i := 1) rfl
  have HR0 := hide ((unhide HRL).below (unhide HW))
  have QS := hide fun V (hV : RStow V (.slice (some ⟨b, o, none⟩) L.length cap) L) => l12Stack_any _ L (bn : Int) sy V hV
  have QK := hide fun V va (hV : RBox V va (stkL L (bn : Int) sy)) => specStackOk_any va (stkL L (bn : Int) sy) x2 V hV
  have HV2 := hide v2
  clear EF EBX EX HRL HRH ESP HC HHC HOE h3 bd0 bd1 bd2 bd3 bd4 bd5 v0 v1 v3'
  generalize stackB (stkL L (bn : Int) sy) x2 = r at *
  go_enter Try.func28, Try.ntmps28
  go_wp2
  rw [← eV]
  clear eV
  go_region_held3 (fun z => z.cell? ⟨w.heap.size + 1, 0, none⟩ = some (.int .i64 (bn : Int)) ∧ z.cell? ⟨w.heap.size + 1, 1, none⟩ = some (.int .i64 sy) ∧ z.cell? ⟨hb', ho' + bn * 4 + 2, none⟩ = some (.int .i64 x2)) (go_keep) (first | (go_at_call 31; refine (unhide QS _ (by first | exact unhide HR0 | exact (unhide HR0).below (Below.refl _ _).drew)).mono ?_; rintro e w5 ⟨ra, m5, c5, rfl, hrow, hm5, hb⟩; have hb5 : Below V0.heap.size V0 w5 := (by first | exact hb | exact Below.trans ((Below.refl _ V0).drew) hb); have HROW := hide hrow; have HB5 := hide hb5; have HW5 := hide (Below.step (unhide HW) hb5); have t0 := ((unhide HS).step hb5).cell (i := 0) rfl; have t1 := ((unhide HS).step hb5).cell (i := 1) rfl; have t2 := (hb5.cell (lt_of_cell (unhide HV2))).trans (unhide HV2); clear hrow hb hb5) | (go_at_call 48; refine (unhide QK _ _ (by first | exact (unhide HROW).recs (by decide) | exact ((unhide HROW).recs (by decide)).below (Below.refl _ _).drew)).mono ?_; rintro e w6 ⟨rfl, hb⟩; have HW6 : Hid (Below w.heap.size w w6) := (by first | exact Below.step (unhide HW5) hb | exact Below.trans ((unhide HW5).drew) (hb.mono (unhide HW5).size)); have hb6 : Below V0.heap.size V0 w6 := (by first | exact Below.step (unhide HB5) hb | exact Below.trans ((unhide HB5).drew) (hb.mono (unhide HB5).size)); have t3 := ((unhide HS).step hb6).cell (i := 0) rfl; have t4 := ((unhide HS).step hb6).cell (i := 1) rfl; have t5 := (hb6.cell (lt_of_cell (unhide HV2))).trans (unhide HV2); clear hb hb6))
  go_wp2
  go_ret
  exact ⟨by rw [unhide EB]; rfl, unhide HW6⟩

set_option maxRecDepth 10000 in
set_option maxHeartbeats 6400000 in
theorem l12Fails6_any (bv lv : Value) (H : List HatchT) (L : List StowT) (i : Nat) (w : World) (hH : RHatch w bv H) (hL : RStow w lv L) (hi : i < L.length) (hh : hatB H = true) (h3 : f3 H L i = false) :
    Calls Try.prog 28 #[bv, lv, .int .i64 (i : Int), .int .i64 6] w fun e w' => e = .returned (.bool (failC H L 6 i)) ∧ Below w.heap.size w w' := by
  have HRL := hide hL
  have HRH := hide hH
  obtain ⟨ao, cap, rfl, hl, hm, hc⟩ := hL
  obtain ⟨ho, hcap, rfl, hhl, hhm, hhc⟩ := hH
  unfold maxLen at hm hhm
  have HC := hide hc
  have HHC := hide hhc
  clear hc hhc
  have EF : Hid (failC H L 6 i = f6 H L i) := rfl
  have HWr := hide (Below.refl w.heap.size w)
  obtain ⟨b, o, n0, wt, cl, co, fr, to, sx, sy, sz, rfl, hc0, hc1, hc2, hc3, hc4, hc5, hc6, hc7, hc8, EX⟩ := recStowAt (unhide HC) hi
  have g0 := ((unhide HWr).cell (lt_of_cell hc0)).trans hc0
  have g1 := ((unhide HWr).cell (lt_of_cell hc1)).trans hc1
  have g2 := ((unhide HWr).cell (lt_of_cell hc2)).trans hc2
  have g3 := ((unhide HWr).cell (lt_of_cell hc3)).trans hc3
  have g4 := ((unhide HWr).cell (lt_of_cell hc4)).trans hc4
  have g5 := ((unhide HWr).cell (lt_of_cell hc5)).trans hc5
  have g6 := ((unhide HWr).cell (lt_of_cell hc6)).trans hc6
  have g7 := ((unhide HWr).cell (lt_of_cell hc7)).trans hc7
  have g8 := ((unhide HWr).cell (lt_of_cell hc8)).trans hc8
  have ESP : Hid (ssp (stO L i) = (sx, sy, sz)) := by show _ = _; unfold stO; rw [unhide EX]; rfl
  have EBX : Hid (sbx (stO L i) = (n0, wt, cl, co, fr, to)) := by show _ = _; unfold stO; rw [unhide EX]; rfl
  clear hc0 hc1 hc2 hc3 hc4 hc5 hc6 hc7 hc8
  have hii : (i : Int) < L.length := by omega
  obtain ⟨V0, eV⟩ : ∃ V, V = ((w.alloc (.cells #[.string n0, .int .i64 wt, .int .i64 cl, .bool co, .int .i64 fr, .int .i64 to, .int .i64 sx, .int .i64 sy, .int .i64 sz] 40)).alloc (.cells #[.int .i64 sx, .int .i64 sy, .int .i64 sz] 38)) := ⟨_, rfl⟩
  have HW : Hid (Below w.heap.size w V0) := by show Below _ _ _; rw [eV]; exact Below.step (Below.alloc1 _ _) (Below.alloc1 _ _)
  have HX : Hid (OwnV V0 w.heap.size [.string n0, .int .i64 wt, .int .i64 cl, .bool co, .int .i64 fr, .int .i64 to, .int .i64 sx, .int .i64 sy, .int .i64 sz]) := by
    show OwnV _ _ _
    rw [eV]
    exact OwnV.alloc (ownV_alloc w #[.string n0, .int .i64 wt, .int .i64 cl, .bool co, .int .i64 fr, .int .i64 to, .int .i64 sx, .int .i64 sy, .int .i64 sz] 40) _
  have HS : Hid (OwnV V0 (w.heap.size + 1) [.int .i64 sx, .int .i64 sy, .int .i64 sz]) := by
    show OwnV _ _ _
    rw [eV]
    have h := ownV_alloc (w.alloc (.cells #[.string n0, .int .i64 wt, .int .i64 cl, .bool co, .int .i64 fr, .int .i64 to, .int .i64 sx, .int .i64 sy, .int .i64 sz] 40)) #[.int .i64 sx, .int .i64 sy, .int .i64 sz] 38
    simp only [World.size_alloc] at h
    exact h
  have hbd := f3_bd hh (i := i) (L := L) h3
  rw [unhide ESP] at hbd
  dsimp only at hbd
  obtain ⟨⟨bd0, bd1⟩, ⟨bd2, bd3⟩, bd4, bd5⟩ := hbd
  obtain ⟨bn, ebn⟩ : ∃ b : Nat, sx = (b : Int) := ⟨sx.toNat, by omega⟩
  subst ebn
  have hbn : bn < H.length := by omega
  obtain ⟨hb', ho', x0, x1, x2, x3, rfl, hc0, hc1, hc2, hc3, EH⟩ := recHatchAt (unhide HHC) hbn
  have HOE : Hid (hO H (bn : Int) = (x0, x1, x2, x3)) := by show _ = _; unfold hO; rw [Int.toNat_natCast]; exact unhide EH
  have v0 := ((unhide HW).cell (lt_of_cell hc0)).trans hc0
  have v1 := ((unhide HW).cell (lt_of_cell hc1)).trans hc1
  have v2 := ((unhide HW).cell (lt_of_cell hc2)).trans hc2
  have v3' := ((unhide HW).cell (lt_of_cell hc3)).trans hc3
  have hbni : (bn : Int) < H.length := by omega
  clear hc0 hc1 hc2 hc3 EH
  have ECO : Hid (coS (stO L i) = co) := by show _ = _; unfold coS stO; rw [unhide EX]
  have EB : Hid (failC H L 6 i = (co && decide (x3 < (cntTo (colB L (bn : Int)) L.length : Int)))) := by show _ = _; rw [unhide EF]; unfold f6; rw [unhide ESP, unhide ECO]; dsimp only; rw [unhide HOE]
  have s0 := (unhide HS).cell (i := 0) rfl
  have c3 := (unhide HX).cell (i := 3) rfl
  have SC := hide fun X : Gr V0 => l12Cold_any _ L (bn : Int) X.val (((unhide HRL).below (unhide HW)).below X.ok)
  clear EF EBX EX HRL HRH ESP HC HHC ECO HOE h3 bd0 bd1 bd2 bd3 bd4 bd5 v0 v1 v2
  obtain ⟨q, eq⟩ : ∃ z : Nat, z = cntTo (colB L (bn : Int)) L.length := ⟨_, rfl⟩
  rw [← eq] at EB SC
  clear eq
  have r0 := fun X : Gr V0 => gr_cell s0 X
  have r3 := fun X : Gr V0 => gr_cell c3 X
  have rv := fun X : Gr V0 => gr_cell v3' X
  have gsome := gr_some V0
  cases co with
  | false =>
    go_enter Try.func28, Try.ntmps28
    go_wp2
    rw [← eV]
    clear eV
    refine wp_region_grown (by kernel_rfl) (by kernel_rfl) ?_
    repeat (go_big_quiet_step (fail))
    refine wpQuiet_nil ?_
    intro w1 hw1
    obtain ⟨zq, hz⟩ := hw1
    have hb : Below V0.heap.size V0 w1 := hz ▸ zq.ok
    clear hz gsome
    replace HW := hide (Below.step (unhide HW) hb)
    clear hb
    go_wp2
    go_ret
    exact ⟨by rw [unhide EB]; rfl, unhide HW⟩
  | true =>
  by_cases hq : x3 < (q : Int)
  · have hqd : decide (x3 < (q : Int)) = true := by simp [hq]
    rw [hqd] at EB
    go_enter Try.func28, Try.ntmps28
    go_wp2
    rw [← eV]
    clear eV
    refine wp_region_grown (by kernel_rfl) (by kernel_rfl) ?_
    repeat (go_big_quiet_step (fail))
    go_big_quiet_want
    go_big_quiet_op
    go_big_quiet_call (exact calls_grown (unhide SC _))
    repeat (go_big_quiet_step (fail))
    refine wpQuiet_nil ?_
    intro w1 hw1
    obtain ⟨zq, hz⟩ := hw1
    have hb : Below V0.heap.size V0 w1 := hz ▸ zq.ok
    clear hz gsome
    replace HW := hide (Below.step (unhide HW) hb)
    clear hb
    go_wp2
    go_ret
    exact ⟨by rw [unhide EB]; rfl, unhide HW⟩
  · have hqd : decide (x3 < (q : Int)) = false := by simp; omega
    rw [hqd] at EB
    go_enter Try.func28, Try.ntmps28
    go_wp2
    rw [← eV]
    clear eV
    refine wp_region_grown (by kernel_rfl) (by kernel_rfl) ?_
    repeat (go_big_quiet_step (fail))
    go_big_quiet_want
    go_big_quiet_op
    go_big_quiet_call (exact calls_grown (unhide SC _))
    repeat (go_big_quiet_step (fail))
    refine wpQuiet_nil ?_
    intro w1 hw1
    obtain ⟨zq, hz⟩ := hw1
    have hb : Below V0.heap.size V0 w1 := hz ▸ zq.ok
    clear hz gsome
    replace HW := hide (Below.step (unhide HW) hb)
    clear hb
    go_wp2
    go_ret
    exact ⟨by rw [unhide EB]; rfl, unhide HW⟩

theorem f7_hit {L : List StowT} {i k : Nat} (hk : k < i) (h : keepS (stO L k) (stO L i) = false) : f7 L i = true := by
  simp only [f7, decide_eq_true_eq]
  exact ⟨k, hk, h⟩
theorem f7_none {L : List StowT} {i : Nat} (h : ∀ k, k < i → keepS (stO L k) (stO L i) = true) : f7 L i = false := by
  simp only [f7, decide_eq_false_iff_not]
  rintro ⟨k, hk, e⟩
  rw [h k hk] at e
  cases e

set_option maxRecDepth 10000 in
set_option maxHeartbeats 6400000 in
theorem l12Fails7_any (bv lv : Value) (H : List HatchT) (L : List StowT) (i : Nat) (w : World) (hH : RHatch w bv H) (hL : RStow w lv L) (hi : i < L.length) :
    Calls Try.prog 28 #[bv, lv, .int .i64 (i : Int), .int .i64 7] w fun e w' => e = .returned (.bool (failC H L 7 i)) ∧ Below w.heap.size w w' := by
  have HRL := hide hL
  have HRH := hide hH
  obtain ⟨ao, cap, rfl, hl, hm, hc⟩ := hL
  obtain ⟨ho, hcap, rfl, hhl, hhm, hhc⟩ := hH
  unfold maxLen at hm hhm
  have HC := hide hc
  have HHC := hide hhc
  clear hc hhc
  have EF : Hid (failC H L 7 i = f7 L i) := rfl
  have HWr := hide (Below.refl w.heap.size w)
  obtain ⟨b, o, n0, wt, cl, co, fr, to, sx, sy, sz, rfl, hc0, hc1, hc2, hc3, hc4, hc5, hc6, hc7, hc8, EX⟩ := recStowAt (unhide HC) hi
  have g0 := ((unhide HWr).cell (lt_of_cell hc0)).trans hc0
  have g1 := ((unhide HWr).cell (lt_of_cell hc1)).trans hc1
  have g2 := ((unhide HWr).cell (lt_of_cell hc2)).trans hc2
  have g3 := ((unhide HWr).cell (lt_of_cell hc3)).trans hc3
  have g4 := ((unhide HWr).cell (lt_of_cell hc4)).trans hc4
  have g5 := ((unhide HWr).cell (lt_of_cell hc5)).trans hc5
  have g6 := ((unhide HWr).cell (lt_of_cell hc6)).trans hc6
  have g7 := ((unhide HWr).cell (lt_of_cell hc7)).trans hc7
  have g8 := ((unhide HWr).cell (lt_of_cell hc8)).trans hc8
  have ESP : Hid (ssp (stO L i) = (sx, sy, sz)) := by show _ = _; unfold stO; rw [unhide EX]; rfl
  have EBX : Hid (sbx (stO L i) = (n0, wt, cl, co, fr, to)) := by show _ = _; unfold stO; rw [unhide EX]; rfl
  clear hc0 hc1 hc2 hc3 hc4 hc5 hc6 hc7 hc8
  have hii : (i : Int) < L.length := by omega
  obtain ⟨V0, eV⟩ : ∃ V, V = ((w.alloc (.cells #[.string n0, .int .i64 wt, .int .i64 cl, .bool co, .int .i64 fr, .int .i64 to, .int .i64 sx, .int .i64 sy, .int .i64 sz] 40)).alloc (.cells #[.int .i64 sx, .int .i64 sy, .int .i64 sz] 38)) := ⟨_, rfl⟩
  have HW : Hid (Below w.heap.size w V0) := by show Below _ _ _; rw [eV]; exact Below.step (Below.alloc1 _ _) (Below.alloc1 _ _)
  have HX : Hid (OwnV V0 w.heap.size [.string n0, .int .i64 wt, .int .i64 cl, .bool co, .int .i64 fr, .int .i64 to, .int .i64 sx, .int .i64 sy, .int .i64 sz]) := by
    show OwnV _ _ _
    rw [eV]
    exact OwnV.alloc (ownV_alloc w #[.string n0, .int .i64 wt, .int .i64 cl, .bool co, .int .i64 fr, .int .i64 to, .int .i64 sx, .int .i64 sy, .int .i64 sz] 40) _
  have HS : Hid (OwnV V0 (w.heap.size + 1) [.int .i64 sx, .int .i64 sy, .int .i64 sz]) := by
    show OwnV _ _ _
    rw [eV]
    have h := ownV_alloc (w.alloc (.cells #[.string n0, .int .i64 wt, .int .i64 cl, .bool co, .int .i64 fr, .int .i64 to, .int .i64 sx, .int .i64 sy, .int .i64 sz] 40)) #[.int .i64 sx, .int .i64 sy, .int .i64 sz] 38
    simp only [World.size_alloc] at h
    exact h
  have E1 : Hid ((∀ k, k < i → keepS (stO L k) (stO L i) = true) → failC H L 7 i = false) := fun h => (unhide EF).trans (f7_none h)
  have E2 : Hid (∀ k, k < i → keepS (stO L k) (stO L i) = false → failC H L 7 i = true) := fun k hk h => (unhide EF).trans (f7_hit hk h)
  clear EF HHC HRL HRH EX
  go_enter Try.func28, Try.ntmps28
  go_wp2
  go_loopg [12] i (fun g iv wr => ∃ k : Nat, k ≤ i ∧ g = i - k ∧ iv = .int .i64 k ∧ Hid (∀ r, r < k → keepS (stO L r) (stO L i) = true) ∧ Hid (Below w.heap.size w wr) ∧ Hid (OwnV wr w.heap.size [.string n0, .int .i64 wt, .int .i64 cl, .bool co, .int .i64 fr, .int .i64 to, .int .i64 sx, .int .i64 sy, .int .i64 sz]) ∧ Hid (OwnV wr (w.heap.size + 1) [.int .i64 sx, .int .i64 sy, .int .i64 sz]))
  case atStart => exact ⟨0, Nat.zero_le _, rfl, rfl, fun r hr => by omega, eV ▸ unhide HW, eV ▸ unhide HX, eV ▸ unhide HS⟩
  case round =>
    clear HW HX HS eV
    obtain ⟨k, hk, rfl, rfl, HA, HW, HX, HS⟩ := hrel
    by_cases hkn : k < i
    · have hkl : k < L.length := by omega
      have HAk := hide (unhide E2 k hkn)
      obtain ⟨b', o', n0', wt', cl', co', fr', to', sx', sy', sz', eBO, hc0, hc1, hc2, hc3, hc4, hc5, hc6, hc7, hc8, EX'⟩ := recStowAt (unhide HC) hkl
      simp only [Option.some.injEq, Addr.mk.injEq, and_true] at eBO
      obtain ⟨rfl, rfl⟩ := eBO
      have e0 := ((unhide HW).cell (lt_of_cell hc0)).trans hc0
      have e1 := ((unhide HW).cell (lt_of_cell hc1)).trans hc1
      have e2 := ((unhide HW).cell (lt_of_cell hc2)).trans hc2
      have e3 := ((unhide HW).cell (lt_of_cell hc3)).trans hc3
      have e4 := ((unhide HW).cell (lt_of_cell hc4)).trans hc4
      have e5 := ((unhide HW).cell (lt_of_cell hc5)).trans hc5
      have e6 := ((unhide HW).cell (lt_of_cell hc6)).trans hc6
      have e7 := ((unhide HW).cell (lt_of_cell hc7)).trans hc7
      have e8 := ((unhide HW).cell (lt_of_cell hc8)).trans hc8
      have ESP' : Hid (ssp (stO L k) = (sx', sy', sz')) := by show _ = _; unfold stO; rw [unhide EX']; rfl
      have EBX' : Hid (sbx (stO L k) = (n0', wt', cl', co', fr', to')) := by show _ = _; unfold stO; rw [unhide EX']; rfl
      clear hc0 hc1 hc2 hc3 hc4 hc5 hc6 hc7 hc8
      have EK : Hid (keepS (stO L k) (stO L i) = keepB (boxB n0' wt' cl' fr' to') (boxB n0 wt cl fr to) cl' cl sx' sy' sz' sx sy sz) := by show _ = _; unfold keepS boxT; rw [unhide EBX, unhide EBX', unhide ESP, unhide ESP']
      have HA1 : Hid (keepS (stO L k) (stO L i) = true → ∀ r, r < k + 1 → keepS (stO L r) (stO L i) = true) := fun h r hr => by
        by_cases e : r = k
        · rw [e]; exact h
        · exact unhide HA r (by omega)
      rw [unhide EK] at HAk HA1
      have x0 := (unhide HX).cell (i := 0) rfl
      have x1 := (unhide HX).cell (i := 1) rfl
      have x2 := (unhide HX).cell (i := 2) rfl
      have x3 := (unhide HX).cell (i := 3) rfl
      have x4 := (unhide HX).cell (i := 4) rfl
      have x5 := (unhide HX).cell (i := 5) rfl
      have k0 := (unhide HS).cell (i := 0) rfl
      have k1 := (unhide HS).cell (i := 1) rfl
      have k2 := (unhide HS).cell (i := 2) rfl
      have re0 := fun X : Gr wr => gr_cell e0 X
      have re1 := fun X : Gr wr => gr_cell e1 X
      have re2 := fun X : Gr wr => gr_cell e2 X
      have re3 := fun X : Gr wr => gr_cell e3 X
      have re4 := fun X : Gr wr => gr_cell e4 X
      have re5 := fun X : Gr wr => gr_cell e5 X
      have re6 := fun X : Gr wr => gr_cell e6 X
      have re7 := fun X : Gr wr => gr_cell e7 X
      have re8 := fun X : Gr wr => gr_cell e8 X
      have rx0 := fun X : Gr wr => gr_cell x0 X
      have rx1 := fun X : Gr wr => gr_cell x1 X
      have rx2 := fun X : Gr wr => gr_cell x2 X
      have rx3 := fun X : Gr wr => gr_cell x3 X
      have rx4 := fun X : Gr wr => gr_cell x4 X
      have rx5 := fun X : Gr wr => gr_cell x5 X
      have rk0 := fun X : Gr wr => gr_cell k0 X
      have rk1 := fun X : Gr wr => gr_cell k1 X
      have rk2 := fun X : Gr wr => gr_cell k2 X

      have gsome := gr_some wr
      have SK := hide fun X : Gr wr => specKeepsApart_any n0' wt' cl' co' fr' to' sx' sy' sz' n0 wt cl co fr to sx sy sz X.val
      unfold vBox v3 at SK
      have hki : (k : Int) < i := by omega
      have hkl2 : (k : Int) < L.length := by omega
      clear EX' EBX' ESP' EK E2 HA
      generalize keepB (boxB n0' wt' cl' fr' to') (boxB n0 wt cl fr to) cl' cl sx' sy' sz' sx sy sz = r at *
      go_wp2
      refine wp_region_grown (by kernel_rfl) (by kernel_rfl) ?_
      repeat (go_big_quiet_step (fail))
      go_big_quiet_want
      go_big_quiet_op
      go_big_quiet_call (exact calls_grown (unhide SK _))
      repeat (go_big_quiet_step (fail))
      refine wpQuiet_nil ?_
      intro w1 hw1
      obtain ⟨zq, hz⟩ := hw1
      have hb : Below wr.heap.size wr w1 := hz ▸ zq.ok
      clear hz gsome

      replace HW := hide (Below.step (unhide HW) hb)
      replace HX := hide ((unhide HX).step hb)
      replace HS := hide ((unhide HS).step hb)
      clear hb SK re0 re1 re2 re3 re4 re5 re6 re7 re8 rx0 rx1 rx2 rx3 rx4 rx5 rk0 rk1 rk2
      cases r with
      | false =>
        have E := hide (unhide HAk rfl)
        clear HAk HA1 E1
        go_wp2
        go_ret
        exact ⟨by rw [unhide E]; rfl, unhide HW⟩
      | true =>
        replace HA1 := hide (unhide HA1 rfl)
        clear HAk
        go_wp2
        go_roundg (i - (k + 1))
        case measure => omega
        case rel => exact ⟨k + 1, by omega, rfl, by go_num, unhide HA1, unhide HW, unhide HX, unhide HS⟩
    · have hki : ¬ (k : Int) < i := by omega
      have hkk : k = i := by omega
      have E := hide (unhide E1 (by rw [← hkk]; rw [← hkk] at HA; exact unhide HA))
      clear hkk E1 E2
      go_wp2
      go_ret
      exact ⟨by rw [unhide E]; rfl, unhide HW⟩

end Go.Proofs.Ytnfdokcpjcnknaa
