/- Stowage: the program's reasons. Written by wip/mksto2.py. -/
import Derived.Test.YtnfdokcpjcnknaaStoE
import Derived.Test.YtnfdokcpjcnknaaStoC
namespace Go.Proofs.Ytnfdokcpjcnknaa
open Go.RowKit

set_option maxRecDepth 10000 in
set_option maxHeartbeats 6400000 in
theorem isWrong_any (ho : Option Addr) (hcap : Nat) (ao : Option Addr) (cap : Nat) (H : List HatchT) (L : List StowT) (i : Nat) (w : World) (hH : RHatch w (.slice ho H.length hcap) H) (hL : RStow w (.slice ao L.length cap) L) (hi : i < L.length) :
    Calls Try.prog 39 #[.agg #[.slice ho H.length hcap, .slice ao L.length cap], .int .i64 (i : Int)] w fun e w' => e = .returned (.bool (failC H L 1 i)) ∧ Below w.heap.size w w' := by
  have HRL := hide hL
  have HRH := hide hH
  obtain ⟨ao', cap', eL, hl, hm, hc⟩ := hL
  obtain ⟨ho', hcap', eH, hhl, hhm, hhc⟩ := hH
  simp only [Value.slice.injEq, true_and] at eL eH
  obtain ⟨rfl, rfl⟩ := eL
  obtain ⟨rfl, rfl⟩ := eH
  unfold maxLen at hm hhm
  have HC := hide hc
  have HHC := hide hhc
  clear hc hhc
  have EF : Hid (failC H L 1 i = f1 L i) := rfl
  have HWr := hide (Below.alloc1 w (.cells #[.slice ho H.length hcap, .slice ao L.length cap] 57))
  obtain ⟨b, o, n0, wt, cl, co, fr, to, sx, sy, sz, rfl, hc0, hc1, hc2, hc3, hc4, hc5, hc6, hc7, hc8, EX⟩ := recStowAt (unhide HC) hi
  have g0 := ((unhide HWr).cell (lt_of_cell hc0)).trans hc0
  have g1 := ((unhide HWr).cell (lt_of_cell hc1)).trans hc1
  have g2 := ((unhide HWr).cell (lt_of_cell hc2)).trans hc2
  have g3 := ((unhide HWr).cell (lt_of_cell hc3)).trans hc3
  have g4 := ((unhide HWr).cell (lt_of_cell hc4)).trans hc4
  have g5 := ((unhide HWr).cell (lt_of_cell hc5)).trans hc5
  have g6 := ((unhide HWr).cell (lt_of_cell hc6)).trans hc6
  have g7 := ((unhide HWr).cell (lt_of_cell hc7)).trans hc7
  have g8 := ((unhide HWr).cell (lt_of_cell hc8)).trans hc8
  have ESP : Hid (ssp (stO L i) = (sx, sy, sz)) := by show _ = _; unfold stO; rw [unhide EX]; rfl
  have EBX : Hid (sbx (stO L i) = (n0, wt, cl, co, fr, to)) := by show _ = _; unfold stO; rw [unhide EX]; rfl
  clear hc0 hc1 hc2 hc3 hc4 hc5 hc6 hc7 hc8
  have hii : (i : Int) < L.length := by omega
  have EB : Hid (failC H L 1 i = !(boxB n0 wt cl fr to)) := by show _ = _; rw [unhide EF]; unfold f1 boxT; rw [unhide EBX]
  have QB := hide fun V => implBoxOk_any n0 wt cl co fr to V
  unfold vBox at QB
  clear EF EBX ESP EX HRL HRH HC HHC
  generalize boxB n0 wt cl fr to = r at *
  go_enter Try.func39, Try.ntmps39
  go_wp2_with fail
  refine (unhide QB _).mono ?_
  rintro e w1 ⟨rfl, hb⟩
  have HW := hide (Below.step (Below.alloc1 _ _) hb)
  clear hb QB
  go_wp2
  go_ret
  exact ⟨by rw [unhide EB]; rfl, unhide HW⟩

set_option maxRecDepth 10000 in
set_option maxHeartbeats 6400000 in
theorem isTwice_any (ho : Option Addr) (hcap : Nat) (ao : Option Addr) (cap : Nat) (H : List HatchT) (L : List StowT) (i : Nat) (w : World) (hH : RHatch w (.slice ho H.length hcap) H) (hL : RStow w (.slice ao L.length cap) L) (hi : i < L.length) :
    Calls Try.prog 40 #[.agg #[.slice ho H.length hcap, .slice ao L.length cap], .int .i64 (i : Int)] w fun e w' => e = .returned (.bool (failC H L 2 i)) ∧ Below w.heap.size w w' := by
  have HRL := hide hL
  have HRH := hide hH
  obtain ⟨ao', cap', eL, hl, hm, hc⟩ := hL
  obtain ⟨ho', hcap', eH, hhl, hhm, hhc⟩ := hH
  simp only [Value.slice.injEq, true_and] at eL eH
  obtain ⟨rfl, rfl⟩ := eL
  obtain ⟨rfl, rfl⟩ := eH
  unfold maxLen at hm hhm
  have HC := hide hc
  have HHC := hide hhc
  clear hc hhc
  have EF : Hid (failC H L 2 i = f2 L i) := rfl
  have HWr := hide (Below.alloc1 w (.cells #[.slice ho H.length hcap, .slice ao L.length cap] 57))
  obtain ⟨b, o, n0, wt, cl, co, fr, to, sx, sy, sz, rfl, hc0, hc1, hc2, hc3, hc4, hc5, hc6, hc7, hc8, EX⟩ := recStowAt (unhide HC) hi
  have g0 := ((unhide HWr).cell (lt_of_cell hc0)).trans hc0
  have g1 := ((unhide HWr).cell (lt_of_cell hc1)).trans hc1
  have g2 := ((unhide HWr).cell (lt_of_cell hc2)).trans hc2
  have g3 := ((unhide HWr).cell (lt_of_cell hc3)).trans hc3
  have g4 := ((unhide HWr).cell (lt_of_cell hc4)).trans hc4
  have g5 := ((unhide HWr).cell (lt_of_cell hc5)).trans hc5
  have g6 := ((unhide HWr).cell (lt_of_cell hc6)).trans hc6
  have g7 := ((unhide HWr).cell (lt_of_cell hc7)).trans hc7
  have g8 := ((unhide HWr).cell (lt_of_cell hc8)).trans hc8
  have ESP : Hid (ssp (stO L i) = (sx, sy, sz)) := by show _ = _; unfold stO; rw [unhide EX]; rfl
  have EBX : Hid (sbx (stO L i) = (n0, wt, cl, co, fr, to)) := by show _ = _; unfold stO; rw [unhide EX]; rfl
  clear hc0 hc1 hc2 hc3 hc4 hc5 hc6 hc7 hc8
  have hii : (i : Int) < L.length := by omega
  obtain ⟨V0, eV⟩ : ∃ V, V = (w.alloc (.cells #[.slice ho H.length hcap, .slice (some ⟨b, o, none⟩) L.length cap] 57)).alloc (.cells #[.string n0, .int .i64 wt, .int .i64 cl, .bool co, .int .i64 fr, .int .i64 to, .int .i64 sx, .int .i64 sy, .int .i64 sz] 40) := ⟨_, rfl⟩
  have HW : Hid (Below w.heap.size w V0) := by show Below _ _ _; rw [eV]; exact Below.step (Below.alloc1 _ _) (Below.alloc1 _ _)
  have HB : Hid (OwnV V0 w.heap.size [.slice ho H.length hcap, .slice (some ⟨b, o, none⟩) L.length cap]) := by
    show OwnV _ _ _
    rw [eV]
    exact OwnV.alloc (ownV_alloc w #[.slice ho H.length hcap, .slice (some ⟨b, o, none⟩) L.length cap] 57) _
  have HS : Hid (OwnV V0 (w.heap.size + 1) [.string n0, .int .i64 wt, .int .i64 cl, .bool co, .int .i64 fr, .int .i64 to, .int .i64 sx, .int .i64 sy, .int .i64 sz]) := by
    show OwnV _ _ _
    rw [eV]
    have h := ownV_alloc (w.alloc (.cells #[.slice ho H.length hcap, .slice (some ⟨b, o, none⟩) L.length cap] 57)) #[.string n0, .int .i64 wt, .int .i64 cl, .bool co, .int .i64 fr, .int .i64 to, .int .i64 sx, .int .i64 sy, .int .i64 sz] 40
    simp only [World.size_alloc] at h
    exact h
  have ENM : Hid (nmS (stO L i) = n0) := by show _ = _; unfold nmS stO; rw [unhide EX]
  have E1 : Hid ((∀ k, k < i → nmS (stO L k) ≠ nmS (stO L i) ∧ ssp (stO L k) ≠ ssp (stO L i)) → failC H L 2 i = false) := fun h => (unhide EF).trans (f2_none h)
  have E2 : Hid (∀ k, k < i → nmS (stO L k) = nmS (stO L i) ∨ ssp (stO L k) = ssp (stO L i) → failC H L 2 i = true) := fun k hk h => (unhide EF).trans (f2_hit hk h)
  rw [unhide ENM, unhide ESP] at E1 E2
  have ETK := hide (hasB_take (s := (sx, sy, sz)) (Nat.le_of_lt hi))
  have QT := hide fun V (hV : RStow V (.slice (some ⟨b, o, none⟩) i cap) (L.take i)) => isTaken_any _ (L.take i) sx sy sz V hV
  unfold v3 at QT
  have HRT := hide (recs_take (unhide HRL) (Nat.le_of_lt hi))
  have hic : i ≤ cap := by omega
  have hici : (i : Int) ≤ cap := by omega
  have b1 := (ownV_alloc w #[.slice ho H.length hcap, .slice (some ⟨b, o, none⟩) L.length cap] 57).cell (i := 1) rfl
  have hZ := Below.alloc1 (w.alloc (.cells #[.slice ho H.length hcap, .slice (some ⟨b, o, none⟩) L.length cap] 57)) (.cells #[.string ⟨#[]⟩, .int .i64 0, .int .i64 0, .bool false, .int .i64 0, .int .i64 0, .int .i64 0, .int .i64 0, .int .i64 0] 40)
  have b1z := ((ownV_alloc w #[.slice ho H.length hcap, .slice (some ⟨b, o, none⟩) L.length cap] 57).step hZ).cell (i := 1) rfl
  have gz0 := (hZ.cell (lt_of_cell g0)).trans g0
  have gz1 := (hZ.cell (lt_of_cell g1)).trans g1
  have gz2 := (hZ.cell (lt_of_cell g2)).trans g2
  have gz3 := (hZ.cell (lt_of_cell g3)).trans g3
  have gz4 := (hZ.cell (lt_of_cell g4)).trans g4
  have gz5 := (hZ.cell (lt_of_cell g5)).trans g5
  have gz6 := (hZ.cell (lt_of_cell g6)).trans g6
  have gz7 := (hZ.cell (lt_of_cell g7)).trans g7
  have gz8 := (hZ.cell (lt_of_cell g8)).trans g8
  clear EF EBX EX HHC HRH ENM ESP hZ
  go_enter Try.func40, Try.ntmps40
  go_wp2
  go_region
  rw [← eV]
  have HWd : Hid (Below w.heap.size w V0.drew) := (unhide HW).drew
  have HSd : Hid (OwnV V0.drew (w.heap.size + 1) [.string n0, .int .i64 wt, .int .i64 cl, .bool co, .int .i64 fr, .int .i64 to, .int .i64 sx, .int .i64 sy, .int .i64 sz]) := (unhide HS).drew
  generalize V0.drew = V1 at *
  clear HW HS HB eV b1 b1z gz0 gz1 gz2 gz3 gz4 gz5 gz6 gz7 gz8
  have y6 := (unhide HSd).cell (i := 6) rfl
  have y7 := (unhide HSd).cell (i := 7) rfl
  have y8 := (unhide HSd).cell (i := 8) rfl
  go_wp2_with fail
  refine (unhide QT _ ((unhide HRT).below (unhide HWd))).mono ?_
  rintro e w1 ⟨rfl, hb⟩
  have HW := hide (Below.step (unhide HWd) hb)
  have HS := hide ((unhide HSd).step hb)
  clear hb QT HWd HSd y6 y7 y8
  rw [unhide ETK]
  by_cases hex : ∃ k, k < i ∧ ssp (stO L k) = (sx, sy, sz)
  · rw [decide_eq_true hex]
    have E : Hid (failC H L 2 i = true) := by
      obtain ⟨k, hk, e⟩ := hex
      exact unhide E2 k hk (Or.inr e)
    clear hex ETK E1 E2
    go_wp2
    go_ret
    exact ⟨by rw [unhide E]; rfl, unhide HW⟩
  rw [decide_eq_false hex]
  have HEX : Hid (∀ k, k < i → ssp (stO L k) ≠ (sx, sy, sz)) := fun k hk e => hex ⟨k, hk, e⟩
  clear hex ETK
  go_wp2
  go_loopg [24] i (fun g kv wr => ∃ k : Nat, k ≤ i ∧ g = i - k ∧ kv = .int .i64 k ∧ Hid (∀ r, r < k → nmS (stO L r) ≠ n0) ∧ Hid (Below w.heap.size w wr) ∧ Hid (OwnV wr (w.heap.size + 1) [.string n0, .int .i64 wt, .int .i64 cl, .bool co, .int .i64 fr, .int .i64 to, .int .i64 sx, .int .i64 sy, .int .i64 sz]))
  case atStart => exact ⟨0, Nat.zero_le _, rfl, rfl, fun r hr => by omega, unhide HW, unhide HS⟩
  case round =>
    clear HW HS
    obtain ⟨k, hk, rfl, rfl, HA, HW, HS⟩ := hrel
    by_cases hkn : k < i
    · have hkl : k < L.length := by omega
      have HAk := hide (unhide E2 k hkn)
      obtain ⟨b', o', n0', wt', cl', co', fr', to', sx', sy', sz', eBO, hc0, hc1, hc2, hc3, hc4, hc5, hc6, hc7, hc8, EX'⟩ := recStowAt (unhide HC) hkl
      simp only [Option.some.injEq, Addr.mk.injEq, and_true] at eBO
      obtain ⟨rfl, rfl⟩ := eBO
      have e0 := ((unhide HW).cell (lt_of_cell hc0)).trans hc0
      have e1 := ((unhide HW).cell (lt_of_cell hc1)).trans hc1
      have e2 := ((unhide HW).cell (lt_of_cell hc2)).trans hc2
      have e3 := ((unhide HW).cell (lt_of_cell hc3)).trans hc3
      have e4 := ((unhide HW).cell (lt_of_cell hc4)).trans hc4
      have e5 := ((unhide HW).cell (lt_of_cell hc5)).trans hc5
      have e6 := ((unhide HW).cell (lt_of_cell hc6)).trans hc6
      have e7 := ((unhide HW).cell (lt_of_cell hc7)).trans hc7
      have e8 := ((unhide HW).cell (lt_of_cell hc8)).trans hc8
      have ESP' : Hid (ssp (stO L k) = (sx', sy', sz')) := by show _ = _; unfold stO; rw [unhide EX']; rfl
      have EBX' : Hid (sbx (stO L k) = (n0', wt', cl', co', fr', to')) := by show _ = _; unfold stO; rw [unhide EX']; rfl
      clear hc0 hc1 hc2 hc3 hc4 hc5 hc6 hc7 hc8
      have ENM : Hid (nmS (stO L k) = n0') := by show _ = _; unfold nmS stO; rw [unhide EX']
      rw [unhide ENM] at HAk
      have HA1 : Hid (n0' ≠ n0 → ∀ r, r < k + 1 → nmS (stO L r) ≠ n0) := fun h r hr => by
        by_cases e : r = k
        · rw [e, unhide ENM]; exact h
        · exact unhide HA r (by omega)
      have hA := Below.alloc1 wr (.cells #[.string n0', .int .i64 wt', .int .i64 cl', .bool co', .int .i64 fr', .int .i64 to', .int .i64 sx', .int .i64 sy', .int .i64 sz'] 40)
      have HW1 := hide (Below.step (unhide HW) hA)
      have HS1 := hide ((unhide HS).step hA)
      have y0 := (unhide HS1).cell (i := 0) rfl
      have hki : (k : Int) < i := by omega
      have hkl2 : (k : Int) < L.length := by omega
      clear EX' EBX' ESP' ENM E2 HA hA HW HS
      by_cases hn : n0' = n0
      · have hn1 : (n0'.toList == n0.toList) = true := by rw [name_eq]; simp [hn]
        have E := hide (unhide HAk (Or.inl hn))
        clear HAk HA1 E1 hn
        go_wp2
        go_ret
        exact ⟨by rw [unhide E]; rfl, unhide HW1⟩
      · have hn1 : (n0'.toList == n0.toList) = false := by rw [name_eq]; simp [hn]
        replace HA1 := hide (unhide HA1 hn)
        clear HAk hn
        go_wp2
        go_roundg (i - (k + 1))
        case measure => omega
        case rel => exact ⟨k + 1, by omega, rfl, by go_num, unhide HA1, unhide HW1, unhide HS1⟩
    · have hki : ¬ (k : Int) < i := by omega
      have hkk : k = i := by omega
      have E := hide (unhide E1 (fun r hr => ⟨unhide HA r (by omega), unhide HEX r hr⟩))
      clear hkk E1 E2
      go_wp2
      go_ret
      exact ⟨by rw [unhide E]; rfl, unhide HW⟩

set_option maxRecDepth 10000 in
set_option maxHeartbeats 6400000 in
theorem isOutside_any (ho : Option Addr) (hcap : Nat) (ao : Option Addr) (cap : Nat) (H : List HatchT) (L : List StowT) (i : Nat) (w : World) (hH : RHatch w (.slice ho H.length hcap) H) (hL : RStow w (.slice ao L.length cap) L) (hi : i < L.length) (hh : hatB H = true) :
    Calls Try.prog 41 #[.agg #[.slice ho H.length hcap, .slice ao L.length cap], .int .i64 (i : Int)] w fun e w' => e = .returned (.bool (failC H L 3 i)) ∧ Below w.heap.size w w' := by
  have HRL := hide hL
  have HRH := hide hH
  obtain ⟨ao', cap', eL, hl, hm, hc⟩ := hL
  obtain ⟨ho', hcap', eH, hhl, hhm, hhc⟩ := hH
  simp only [Value.slice.injEq, true_and] at eL eH
  obtain ⟨rfl, rfl⟩ := eL
  obtain ⟨rfl, rfl⟩ := eH
  unfold maxLen at hm hhm
  have HC := hide hc
  have HHC := hide hhc
  clear hc hhc
  have EF : Hid (failC H L 3 i = f3 H L i) := rfl
  have HWr := hide (Below.alloc1 w (.cells #[.slice ho H.length hcap, .slice ao L.length cap] 57))
  obtain ⟨b, o, n0, wt, cl, co, fr, to, sx, sy, sz, rfl, hc0, hc1, hc2, hc3, hc4, hc5, hc6, hc7, hc8, EX⟩ := recStowAt (unhide HC) hi
  have g0 := ((unhide HWr).cell (lt_of_cell hc0)).trans hc0
  have g1 := ((unhide HWr).cell (lt_of_cell hc1)).trans hc1
  have g2 := ((unhide HWr).cell (lt_of_cell hc2)).trans hc2
  have g3 := ((unhide HWr).cell (lt_of_cell hc3)).trans hc3
  have g4 := ((unhide HWr).cell (lt_of_cell hc4)).trans hc4
  have g5 := ((unhide HWr).cell (lt_of_cell hc5)).trans hc5
  have g6 := ((unhide HWr).cell (lt_of_cell hc6)).trans hc6
  have g7 := ((unhide HWr).cell (lt_of_cell hc7)).trans hc7
  have g8 := ((unhide HWr).cell (lt_of_cell hc8)).trans hc8
  have ESP : Hid (ssp (stO L i) = (sx, sy, sz)) := by show _ = _; unfold stO; rw [unhide EX]; rfl
  have EBX : Hid (sbx (stO L i) = (n0, wt, cl, co, fr, to)) := by show _ = _; unfold stO; rw [unhide EX]; rfl
  clear hc0 hc1 hc2 hc3 hc4 hc5 hc6 hc7 hc8
  have hii : (i : Int) < L.length := by omega
  obtain ⟨V0, eV⟩ : ∃ V, V = (w.alloc (.cells #[.slice ho H.length hcap, .slice (some ⟨b, o, none⟩) L.length cap] 57)).alloc (.cells #[.int .i64 sx, .int .i64 sy, .int .i64 sz] 38) := ⟨_, rfl⟩
  have HW : Hid (Below w.heap.size w V0) := by show Below _ _ _; rw [eV]; exact Below.step (Below.alloc1 _ _) (Below.alloc1 _ _)
  have HB : Hid (OwnV V0 w.heap.size [.slice ho H.length hcap, .slice (some ⟨b, o, none⟩) L.length cap]) := by
    show OwnV _ _ _
    rw [eV]
    exact OwnV.alloc (ownV_alloc w #[.slice ho H.length hcap, .slice (some ⟨b, o, none⟩) L.length cap] 57) _
  have HS : Hid (OwnV V0 (w.heap.size + 1) [.int .i64 sx, .int .i64 sy, .int .i64 sz]) := by
    show OwnV _ _ _
    rw [eV]
    have h := ownV_alloc (w.alloc (.cells #[.slice ho H.length hcap, .slice (some ⟨b, o, none⟩) L.length cap] 57)) #[.int .i64 sx, .int .i64 sy, .int .i64 sz] 38
    simp only [World.size_alloc] at h
    exact h
  have EB : Hid (failC H L 3 i = !(inB sx 0 ((H.length : Int) - 1) && inB sy 0 ((hO H sx).1 - 1) && inB sz 0 ((hO H sx).2.1 - 1))) := by show _ = _; rw [unhide EF]; unfold f3 spIn; rw [unhide ESP]
  have s0 := (unhide HS).cell (i := 0) rfl
  have s1 := (unhide HS).cell (i := 1) rfl
  have s2 := (unhide HS).cell (i := 2) rfl
  have b0 := (unhide HB).cell (i := 0) rfl
  have hlen := hatB_len hh
  obtain ⟨hln0, hln1⟩ := hlen
  have q0 : IntKind.i64.wrap ((H.length : Int) - 1) = (H.length : Int) - 1 := by rw [IntKind.wrap_i64]; omega
  have Q0 := hide fun V => within_any sx 0 ((H.length : Int) - 1) V
  clear EF EBX EX HRL HRH ESP
  cases h0 : inB sx 0 ((H.length : Int) - 1) with
  | false =>
    rw [h0] at EB Q0
    go_enter Try.func41, Try.ntmps41
    go_wp2_with fail
    rw [← eV]
    clear eV
    refine (unhide Q0 _).mono ?_
    rintro e w1 ⟨rfl, rfl⟩
    go_wp2
    go_ret
    exact ⟨by rw [unhide EB]; rfl, unhide HW⟩
  | true =>
  rw [h0] at EB Q0
  have hb0 := inB_true h0
  obtain ⟨bn, ebn⟩ : ∃ b : Nat, sx = (b : Int) := ⟨sx.toNat, by omega⟩
  subst ebn
  have hbn : bn < H.length := by omega
  have HAT1 := hide (hatB_at hh hbn)
  obtain ⟨hb', ho', x0, x1, x2, x3, rfl, hc0, hc1, hc2, hc3, EH⟩ := recHatchAt (unhide HHC) hbn
  have HOE : Hid (hO H (bn : Int) = (x0, x1, x2, x3)) := by show _ = _; unfold hO; rw [Int.toNat_natCast]; exact unhide EH
  have v0 := ((unhide HW).cell (lt_of_cell hc0)).trans hc0
  have v1 := ((unhide HW).cell (lt_of_cell hc1)).trans hc1
  have v2 := ((unhide HW).cell (lt_of_cell hc2)).trans hc2
  have v3' := ((unhide HW).cell (lt_of_cell hc3)).trans hc3
  have hbni : (bn : Int) < H.length := by omega
  clear hc0 hc1 hc2 hc3 EH
  have HAT2 : Hid (hat1 (x0, x1, x2, x3) = true) := by
    have h := unhide HAT1
    have e := unhide HOE
    unfold hO at e
    rw [Int.toNat_natCast] at e
    rw [e] at h
    exact h
  have hx01 : (1 ≤ x0 ∧ x0 ≤ 6) ∧ 1 ≤ x1 ∧ x1 ≤ 6 := by
    have h := unhide HAT2
    simp only [hat1, Bool.and_eq_true] at h
    exact ⟨inB_true h.1.1.1, inB_true h.1.1.2⟩
  obtain ⟨⟨y0, y1⟩, y2, y3⟩ := hx01
  rw [unhide HOE] at EB
  dsimp only at EB
  have q1 : IntKind.i64.wrap (x0 - 1) = x0 - 1 := by rw [IntKind.wrap_i64]; omega
  have q2 : IntKind.i64.wrap (x1 - 1) = x1 - 1 := by rw [IntKind.wrap_i64]; omega
  have Q1 := hide fun V => within_any sy 0 (x0 - 1) V
  have Q2 := hide fun V => within_any sz 0 (x1 - 1) V
  clear HAT1 HAT2 HOE hb0 h0
  have HS1 := hide ((unhide HS).step (Below.alloc1 V0 (.cells #[.int .i64 x0, .int .i64 x1, .int .i64 x2, .int .i64 x3] 65)))
  have t1 := (unhide HS1).cell (i := 1) rfl
  have t2 := (unhide HS1).cell (i := 2) rfl
  have HW1 := hide (Below.step (unhide HW) (Below.alloc1 V0 (.cells #[.int .i64 x0, .int .i64 x1, .int .i64 x2, .int .i64 x3] 65)))
  cases h1 : inB sy 0 (x0 - 1) with
  | false =>
    rw [h1] at EB Q1
    go_enter Try.func41, Try.ntmps41
    go_wp2_with fail
    rw [← eV]
    clear eV
    refine (unhide Q0 _).mono ?_
    rintro e w1 ⟨rfl, rfl⟩
    go_wp2_with fail
    refine (unhide Q1 _).mono ?_
    rintro e w2 ⟨rfl, rfl⟩
    go_wp2
    go_ret
    exact ⟨by rw [unhide EB]; rfl, unhide HW1⟩
  | true =>
  rw [h1] at EB Q1
  generalize inB sz 0 (x1 - 1) = r at *
  go_enter Try.func41, Try.ntmps41
  go_wp2_with fail
  rw [← eV]
  clear eV
  refine (unhide Q0 _).mono ?_
  rintro e w1 ⟨rfl, rfl⟩
  go_wp2_with fail
  refine (unhide Q1 _).mono ?_
  rintro e w2 ⟨rfl, rfl⟩
  go_wp2_with fail
  refine (unhide Q2 _).mono ?_
  rintro e w2 ⟨rfl, rfl⟩
  go_wp2
  go_ret
  exact ⟨by rw [unhide EB]; rfl, unhide HW1⟩

set_option maxRecDepth 10000 in
set_option maxHeartbeats 6400000 in
theorem isFloating_any (ho : Option Addr) (hcap : Nat) (ao : Option Addr) (cap : Nat) (H : List HatchT) (L : List StowT) (i : Nat) (w : World) (hH : RHatch w (.slice ho H.length hcap) H) (hL : RStow w (.slice ao L.length cap) L) (hi : i < L.length) (hh : hatB H = true) (h3 : f3 H L i = false) :
    Calls Try.prog 42 #[.agg #[.slice ho H.length hcap, .slice ao L.length cap], .int .i64 (i : Int)] w fun e w' => e = .returned (.bool (failC H L 4 i)) ∧ Below w.heap.size w w' := by
  have HRL := hide hL
  have HRH := hide hH
  obtain ⟨ao', cap', eL, hl, hm, hc⟩ := hL
  obtain ⟨ho', hcap', eH, hhl, hhm, hhc⟩ := hH
  simp only [Value.slice.injEq, true_and] at eL eH
  obtain ⟨rfl, rfl⟩ := eL
  obtain ⟨rfl, rfl⟩ := eH
  unfold maxLen at hm hhm
  have HC := hide hc
  have HHC := hide hhc
  clear hc hhc
  have EF : Hid (failC H L 4 i = f4 L i) := rfl
  have HWr := hide (Below.alloc1 w (.cells #[.slice ho H.length hcap, .slice ao L.length cap] 57))
  obtain ⟨b, o, n0, wt, cl, co, fr, to, sx, sy, sz, rfl, hc0, hc1, hc2, hc3, hc4, hc5, hc6, hc7, hc8, EX⟩ := recStowAt (unhide HC) hi
  have g0 := ((unhide HWr).cell (lt_of_cell hc0)).trans hc0
  have g1 := ((unhide HWr).cell (lt_of_cell hc1)).trans hc1
  have g2 := ((unhide HWr).cell (lt_of_cell hc2)).trans hc2
  have g3 := ((unhide HWr).cell (lt_of_cell hc3)).trans hc3
  have g4 := ((unhide HWr).cell (lt_of_cell hc4)).trans hc4
  have g5 := ((unhide HWr).cell (lt_of_cell hc5)).trans hc5
  have g6 := ((unhide HWr).cell (lt_of_cell hc6)).trans hc6
  have g7 := ((unhide HWr).cell (lt_of_cell hc7)).trans hc7
  have g8 := ((unhide HWr).cell (lt_of_cell hc8)).trans hc8
  have ESP : Hid (ssp (stO L i) = (sx, sy, sz)) := by show _ = _; unfold stO; rw [unhide EX]; rfl
  have EBX : Hid (sbx (stO L i) = (n0, wt, cl, co, fr, to)) := by show _ = _; unfold stO; rw [unhide EX]; rfl
  clear hc0 hc1 hc2 hc3 hc4 hc5 hc6 hc7 hc8
  have hii : (i : Int) < L.length := by omega
  have hbd := f3_bd hh (i := i) (L := L) h3
  rw [unhide ESP] at hbd
  dsimp only at hbd
  obtain ⟨⟨bd0, bd1⟩, ⟨bd2, bd3⟩, bd4, bd5⟩ := hbd
  have EB : Hid (failC H L 4 i = (decide (0 < sz) && !hasB L (sx, sy, sz - 1))) := by show _ = _; rw [unhide EF]; unfold f4; rw [unhide ESP]
  obtain ⟨V1, eV⟩ : ∃ V, V = ((w.alloc (.cells #[.slice ho H.length hcap, .slice (some ⟨b, o, none⟩) L.length cap] 57)).alloc (.cells #[.int .i64 sx, .int .i64 sy, .int .i64 (sz - 1)] 38)) := ⟨_, rfl⟩
  have HW : Hid (Below w.heap.size w V1) := by show Below _ _ _; rw [eV]; exact Below.step (Below.alloc1 _ _) (Below.alloc1 _ _)
  have q1 : IntKind.i64.wrap (sz - 1) = sz - 1 := by rw [IntKind.wrap_i64]; omega
  have QA := hide fun V (hV : RStow V (.slice (some ⟨b, o, none⟩) L.length cap) L) => isTaken_any _ L sx sy (sz - 1) V hV
  unfold v3 at QA
  clear EF EBX EX HC HHC HRH ESP h3 bd0 bd1 bd2 bd3
  by_cases hz : 0 < sz
  · have hzd : decide (0 < sz) = true := by simp [hz]
    rw [hzd] at EB
    generalize hasB L (sx, sy, sz - 1) = r at *
    have hz1 : ¬ sz - 1 < 0 := by omega
    have hz2 : decide (0 ≤ sz - 1) = true := by simp; omega
    have hz3 : 0 ≤ sz - 1 := by omega
    go_enter Try.func42, Try.ntmps42
    go_wp2_with fail
    rw [← eV]
    clear eV
    refine (unhide QA _ ((unhide HRL).below (unhide HW))).mono ?_
    rintro e w1 ⟨rfl, hb⟩
    replace HW := hide (Below.step (unhide HW) hb)
    clear hb QA
    go_wp2
    go_ret
    exact ⟨by rw [unhide EB]; rfl, unhide HW⟩
  · have hzd : decide (0 < sz) = false := by simp; omega
    rw [hzd] at EB
    have hz1 : sz - 1 < 0 := by omega
    have hz2 : decide (0 ≤ sz - 1) = false := by simp; omega
    have hz3 : ¬ 0 ≤ sz - 1 := by omega
    go_enter Try.func42, Try.ntmps42
    go_wp2
    go_ret
    exact ⟨by rw [unhide EB]; rfl, eV ▸ unhide HW⟩

set_option maxRecDepth 10000 in
set_option maxHeartbeats 6400000 in
theorem isBadlyStacked_any (ho : Option Addr) (hcap : Nat) (ao : Option Addr) (cap : Nat) (H : List HatchT) (L : List StowT) (i : Nat) (w : World) (hH : RHatch w (.slice ho H.length hcap) H) (hL : RStow w (.slice ao L.length cap) L) (hi : i < L.length) (hh : hatB H = true) (h3 : f3 H L i = false) (hl40 : L.length ≤ 40) (hpk : ∀ x y, pkT L x y 6 = stkL L x y) :
    Calls Try.prog 43 #[.agg #[.slice ho H.length hcap, .slice ao L.length cap], .int .i64 (i : Int)] w fun e w' => e = .returned (.bool (failC H L 5 i)) ∧ Below w.heap.size w w' := by
  have HRL := hide hL
  have HRH := hide hH
  obtain ⟨ao', cap', eL, hl, hm, hc⟩ := hL
  obtain ⟨ho', hcap', eH, hhl, hhm, hhc⟩ := hH
  simp only [Value.slice.injEq, true_and] at eL eH
  obtain ⟨rfl, rfl⟩ := eL
  obtain ⟨rfl, rfl⟩ := eH
  unfold maxLen at hm hhm
  have HC := hide hc
  have HHC := hide hhc
  clear hc hhc
  have EF : Hid (failC H L 5 i = f5 H L i) := rfl
  have HWr := hide (Below.alloc1 w (.cells #[.slice ho H.length hcap, .slice ao L.length cap] 57))
  obtain ⟨b, o, n0, wt, cl, co, fr, to, sx, sy, sz, rfl, hc0, hc1, hc2, hc3, hc4, hc5, hc6, hc7, hc8, EX⟩ := recStowAt (unhide HC) hi
  have g0 := ((unhide HWr).cell (lt_of_cell hc0)).trans hc0
  have g1 := ((unhide HWr).cell (lt_of_cell hc1)).trans hc1
  have g2 := ((unhide HWr).cell (lt_of_cell hc2)).trans hc2
  have g3 := ((unhide HWr).cell (lt_of_cell hc3)).trans hc3
  have g4 := ((unhide HWr).cell (lt_of_cell hc4)).trans hc4
  have g5 := ((unhide HWr).cell (lt_of_cell hc5)).trans hc5
  have g6 := ((unhide HWr).cell (lt_of_cell hc6)).trans hc6
  have g7 := ((unhide HWr).cell (lt_of_cell hc7)).trans hc7
  have g8 := ((unhide HWr).cell (lt_of_cell hc8)).trans hc8
  have ESP : Hid (ssp (stO L i) = (sx, sy, sz)) := by show _ = _; unfold stO; rw [unhide EX]; rfl
  have EBX : Hid (sbx (stO L i) = (n0, wt, cl, co, fr, to)) := by show _ = _; unfold stO; rw [unhide EX]; rfl
  clear hc0 hc1 hc2 hc3 hc4 hc5 hc6 hc7 hc8
  have hii : (i : Int) < L.length := by omega
  have hbd := f3_bd hh (i := i) (L := L) h3
  rw [unhide ESP] at hbd
  dsimp only at hbd
  obtain ⟨⟨bd0, bd1⟩, ⟨bd2, bd3⟩, bd4, bd5⟩ := hbd
  obtain ⟨bn, ebn⟩ : ∃ b : Nat, sx = (b : Int) := ⟨sx.toNat, by omega⟩
  subst ebn
  have hbn : bn < H.length := by omega
  obtain ⟨hb', ho', x0, x1, x2, x3, rfl, hc0, hc1, hc2, hc3, EH⟩ := recHatchAt (unhide HHC) hbn
  have HOE : Hid (hO H (bn : Int) = (x0, x1, x2, x3)) := by show _ = _; unfold hO; rw [Int.toNat_natCast]; exact unhide EH
  have hbni : (bn : Int) < H.length := by omega
  clear EH
  obtain ⟨V0, eV⟩ : ∃ V, V = (w.alloc (.cells #[.slice (some ⟨hb', ho', none⟩) H.length hcap, .slice (some ⟨b, o, none⟩) L.length cap] 57)).alloc (.cells #[.int .i64 (bn : Int), .int .i64 sy, .int .i64 sz] 38) := ⟨_, rfl⟩
  have HW : Hid (Below w.heap.size w V0) := by show Below _ _ _; rw [eV]; exact Below.step (Below.alloc1 _ _) (Below.alloc1 _ _)
  have HB : Hid (OwnV V0 w.heap.size [.slice (some ⟨hb', ho', none⟩) H.length hcap, .slice (some ⟨b, o, none⟩) L.length cap]) := by
    show OwnV _ _ _
    rw [eV]
    exact OwnV.alloc (ownV_alloc w #[.slice (some ⟨hb', ho', none⟩) H.length hcap, .slice (some ⟨b, o, none⟩) L.length cap] 57) _
  have HS : Hid (OwnV V0 (w.heap.size + 1) [.int .i64 (bn : Int), .int .i64 sy, .int .i64 sz]) := by
    show OwnV _ _ _
    rw [eV]
    have h := ownV_alloc (w.alloc (.cells #[.slice (some ⟨hb', ho', none⟩) H.length hcap, .slice (some ⟨b, o, none⟩) L.length cap] 57)) #[.int .i64 (bn : Int), .int .i64 sy, .int .i64 sz] 38
    simp only [World.size_alloc] at h
    exact h
  have v2 := ((unhide HW).cell (lt_of_cell hc2)).trans hc2
  have EB : Hid (failC H L 5 i = !stackB (stkL L (bn : Int) sy) x2) := by show _ = _; rw [unhide EF]; unfold f5; rw [unhide ESP]; dsimp only; rw [unhide HOE]
  have s0 := (unhide HS).cell (i := 0) rfl
  have s1 := (unhide HS).cell (i := 1) rfl
  have b0 := (unhide HB).cell (i := 0) rfl
  have b1 := (unhide HB).cell (i := 1) rfl
  have HR0 := hide ((unhide HRL).below (unhide HW))
  have QS := hide fun V (hV : RStow V (.slice (some ⟨b, o, none⟩) L.length cap) L) => stackAt_any _ L (bn : Int) sy V hV hl40
  rw [hpk] at QS
  have QK := hide fun V va (hV : RBox V va (stkL L (bn : Int) sy)) => implStackOk_any va (stkL L (bn : Int) sy) x2 V hV
  have HV2 := hide v2
  clear EF EBX EX HRL HRH ESP HC HHC HOE h3 bd0 bd1 bd2 bd3 bd4 bd5 hpk hc0 hc1 hc2 hc3
  generalize stackB (stkL L (bn : Int) sy) x2 = r at *
  go_enter Try.func43, Try.ntmps43
  go_wp2
  rw [← eV]
  clear eV
  go_region_held3 (fun z => z.cell? ⟨w.heap.size + 1, 0, none⟩ = some (.int .i64 (bn : Int)) ∧ z.cell? ⟨w.heap.size + 1, 1, none⟩ = some (.int .i64 sy) ∧ z.cell? ⟨hb', ho' + bn * 4 + 2, none⟩ = some (.int .i64 x2) ∧ z.cell? ⟨w.heap.size, 0, none⟩ = some (.slice (some ⟨hb', ho', none⟩) H.length hcap) ∧ z.cell? ⟨w.heap.size, 1, none⟩ = some (.slice (some ⟨b, o, none⟩) L.length cap)) (go_keep) (first | (go_at_call 58; refine (unhide QS _ (by first | exact unhide HR0 | exact (unhide HR0).below (Below.refl _ _).drew)).mono ?_; rintro e w5 ⟨ra, m5, c5, rfl, hrow, hb⟩; have hb5 : Below V0.heap.size V0 w5 := (by first | exact hb | exact Below.trans ((Below.refl _ V0).drew) hb); have HROW := hide hrow; have HB5 := hide hb5; have HW5 := hide (Below.step (unhide HW) hb5); have t0 := ((unhide HS).step hb5).cell (i := 0) rfl; have t1 := ((unhide HS).step hb5).cell (i := 1) rfl; have t2 := (hb5.cell (lt_of_cell (unhide HV2))).trans (unhide HV2); have t6 := ((unhide HB).step hb5).cell (i := 0) rfl; have t7 := ((unhide HB).step hb5).cell (i := 1) rfl; clear hrow hb hb5) | (go_at_call 57; refine (unhide QK _ _ (by first | exact (unhide HROW).recs (by decide) | exact ((unhide HROW).recs (by decide)).below (Below.refl _ _).drew)).mono ?_; rintro e w6 ⟨rfl, hb⟩; have HW6 : Hid (Below w.heap.size w w6) := (by first | exact Below.step (unhide HW5) hb | exact Below.trans ((unhide HW5).drew) (hb.mono (unhide HW5).size)); have hb6 : Below V0.heap.size V0 w6 := (by first | exact Below.step (unhide HB5) hb | exact Below.trans ((unhide HB5).drew) (hb.mono (unhide HB5).size)); have t3 := ((unhide HS).step hb6).cell (i := 0) rfl; have t4 := ((unhide HS).step hb6).cell (i := 1) rfl; have t5 := (hb6.cell (lt_of_cell (unhide HV2))).trans (unhide HV2); have t8 := ((unhide HB).step hb6).cell (i := 0) rfl; have t9 := ((unhide HB).step hb6).cell (i := 1) rfl; clear hb hb6))
  clear t0 t1 t2 t3 t4 t5 t6 t7 t8 t9 s0 s1 b0 b1 v2 hi hh hl40 hl hhl hii hbn hbni HR0 HV2 HS HB HROW HB5 HW5 HW
  go_wp2
  go_ret
  exact ⟨by rw [unhide EB]; rfl, unhide HW6⟩

set_option maxRecDepth 10000 in
set_option maxHeartbeats 6400000 in
theorem isUnplugged_any (ho : Option Addr) (hcap : Nat) (ao : Option Addr) (cap : Nat) (H : List HatchT) (L : List StowT) (i : Nat) (w : World) (hH : RHatch w (.slice ho H.length hcap) H) (hL : RStow w (.slice ao L.length cap) L) (hi : i < L.length) (hh : hatB H = true) (h3 : f3 H L i = false) :
    Calls Try.prog 44 #[.agg #[.slice ho H.length hcap, .slice ao L.length cap], .int .i64 (i : Int)] w fun e w' => e = .returned (.bool (failC H L 6 i)) ∧ Below w.heap.size w w' := by
  have HRL := hide hL
  have HRH := hide hH
  obtain ⟨ao', cap', eL, hl, hm, hc⟩ := hL
  obtain ⟨ho', hcap', eH, hhl, hhm, hhc⟩ := hH
  simp only [Value.slice.injEq, true_and] at eL eH
  obtain ⟨rfl, rfl⟩ := eL
  obtain ⟨rfl, rfl⟩ := eH
  unfold maxLen at hm hhm
  have HC := hide hc
  have HHC := hide hhc
  clear hc hhc
  have EF : Hid (failC H L 6 i = f6 H L i) := rfl
  have HWr := hide (Below.alloc1 w (.cells #[.slice ho H.length hcap, .slice ao L.length cap] 57))
  obtain ⟨b, o, n0, wt, cl, co, fr, to, sx, sy, sz, rfl, hc0, hc1, hc2, hc3, hc4, hc5, hc6, hc7, hc8, EX⟩ := recStowAt (unhide HC) hi
  have g0 := ((unhide HWr).cell (lt_of_cell hc0)).trans hc0
  have g1 := ((unhide HWr).cell (lt_of_cell hc1)).trans hc1
  have g2 := ((unhide HWr).cell (lt_of_cell hc2)).trans hc2
  have g3 := ((unhide HWr).cell (lt_of_cell hc3)).trans hc3
  have g4 := ((unhide HWr).cell (lt_of_cell hc4)).trans hc4
  have g5 := ((unhide HWr).cell (lt_of_cell hc5)).trans hc5
  have g6 := ((unhide HWr).cell (lt_of_cell hc6)).trans hc6
  have g7 := ((unhide HWr).cell (lt_of_cell hc7)).trans hc7
  have g8 := ((unhide HWr).cell (lt_of_cell hc8)).trans hc8
  have ESP : Hid (ssp (stO L i) = (sx, sy, sz)) := by show _ = _; unfold stO; rw [unhide EX]; rfl
  have EBX : Hid (sbx (stO L i) = (n0, wt, cl, co, fr, to)) := by show _ = _; unfold stO; rw [unhide EX]; rfl
  clear hc0 hc1 hc2 hc3 hc4 hc5 hc6 hc7 hc8
  have hii : (i : Int) < L.length := by omega
  have hbd := f3_bd hh (i := i) (L := L) h3
  rw [unhide ESP] at hbd
  dsimp only at hbd
  obtain ⟨⟨bd0, bd1⟩, ⟨bd2, bd3⟩, bd4, bd5⟩ := hbd
  obtain ⟨bn, ebn⟩ : ∃ b : Nat, sx = (b : Int) := ⟨sx.toNat, by omega⟩
  subst ebn
  have hbn : bn < H.length := by omega
  obtain ⟨hb', ho', x0, x1, x2, x3, rfl, hc0, hc1, hc2, hc3, EH⟩ := recHatchAt (unhide HHC) hbn
  have HOE : Hid (hO H (bn : Int) = (x0, x1, x2, x3)) := by show _ = _; unfold hO; rw [Int.toNat_natCast]; exact unhide EH
  have hbni : (bn : Int) < H.length := by omega
  clear EH
  obtain ⟨V0, eV⟩ : ∃ V, V = (w.alloc (.cells #[.slice (some ⟨hb', ho', none⟩) H.length hcap, .slice (some ⟨b, o, none⟩) L.length cap] 57)).alloc (.cells #[.string n0, .int .i64 wt, .int .i64 cl, .bool co, .int .i64 fr, .int .i64 to, .int .i64 (bn : Int), .int .i64 sy, .int .i64 sz] 40) := ⟨_, rfl⟩
  have HW : Hid (Below w.heap.size w V0) := by show Below _ _ _; rw [eV]; exact Below.step (Below.alloc1 _ _) (Below.alloc1 _ _)
  have HB : Hid (OwnV V0 w.heap.size [.slice (some ⟨hb', ho', none⟩) H.length hcap, .slice (some ⟨b, o, none⟩) L.length cap]) := by
    show OwnV _ _ _
    rw [eV]
    exact OwnV.alloc (ownV_alloc w #[.slice (some ⟨hb', ho', none⟩) H.length hcap, .slice (some ⟨b, o, none⟩) L.length cap] 57) _
  have HS : Hid (OwnV V0 (w.heap.size + 1) [.string n0, .int .i64 wt, .int .i64 cl, .bool co, .int .i64 fr, .int .i64 to, .int .i64 (bn : Int), .int .i64 sy, .int .i64 sz]) := by
    show OwnV _ _ _
    rw [eV]
    have h := ownV_alloc (w.alloc (.cells #[.slice (some ⟨hb', ho', none⟩) H.length hcap, .slice (some ⟨b, o, none⟩) L.length cap] 57)) #[.string n0, .int .i64 wt, .int .i64 cl, .bool co, .int .i64 fr, .int .i64 to, .int .i64 (bn : Int), .int .i64 sy, .int .i64 sz] 40
    simp only [World.size_alloc] at h
    exact h
  have ECO : Hid (coS (stO L i) = co) := by show _ = _; unfold coS stO; rw [unhide EX]
  have EB : Hid (failC H L 6 i = (co && decide (x3 < (cntTo (colB L (bn : Int)) L.length : Int)))) := by show _ = _; rw [unhide EF]; unfold f6; rw [unhide ESP, unhide ECO]; dsimp only; rw [unhide HOE]
  have b1 := (unhide HB).cell (i := 1) rfl
  have HV3 := hide hc3
  clear EF EBX EX HRL HRH ESP HHC ECO HOE h3 bd0 bd1 bd2 bd3 bd4 bd5 hc0 hc1 hc2 hc3
  cases co with
  | false =>
    go_enter Try.func44, Try.ntmps44
    go_wp2
    go_ret
    exact ⟨by rw [unhide EB]; rfl, eV ▸ unhide HW⟩
  | true =>
  go_enter Try.func44, Try.ntmps44
  go_wp2
  go_loopg [6, 21] L.length (fun g nv kv wr => ∃ (k q : Nat), k ≤ L.length ∧ g = L.length - k ∧ kv = .int .i64 k ∧ nv = .int .i64 (q : Int) ∧ q ≤ k ∧ Hid (q = cntTo (colB L (bn : Int)) k) ∧ Hid (Below w.heap.size w wr) ∧ Hid (OwnV wr w.heap.size [.slice (some ⟨hb', ho', none⟩) H.length hcap, .slice (some ⟨b, o, none⟩) L.length cap]) ∧ Hid (OwnV wr (w.heap.size + 1) [.string n0, .int .i64 wt, .int .i64 cl, .bool true, .int .i64 fr, .int .i64 to, .int .i64 (bn : Int), .int .i64 sy, .int .i64 sz]))
  case atStart => exact ⟨0, 0, Nat.zero_le _, rfl, rfl, rfl, Nat.le_refl _, rfl, eV ▸ unhide HW, eV ▸ unhide HB, eV ▸ unhide HS⟩
  case round =>
    clear HW HB HS eV b1
    obtain ⟨k, q, hk, rfl, rfl, rfl, hq, HQ, HW, HB, HS⟩ := hrel
    by_cases hkn : k < L.length
    · have HH : Hid (colB L (bn : Int) k = true → q + 1 = cntTo (colB L (bn : Int)) (k + 1)) := fun h => by rw [cntTo_hit h, ← unhide HQ]
      have HM : Hid (colB L (bn : Int) k = false → q = cntTo (colB L (bn : Int)) (k + 1)) := fun h => by rw [cntTo_miss h, ← unhide HQ]
      obtain ⟨b', o', n0', wt', cl', co', fr', to', sx', sy', sz', eBO, hc0, hc1, hc2, hc3, hc4, hc5, hc6, hc7, hc8, EX'⟩ := recStowAt (unhide HC) hkn
      simp only [Option.some.injEq, Addr.mk.injEq, and_true] at eBO
      obtain ⟨rfl, rfl⟩ := eBO
      have e0 := ((unhide HW).cell (lt_of_cell hc0)).trans hc0
      have e1 := ((unhide HW).cell (lt_of_cell hc1)).trans hc1
      have e2 := ((unhide HW).cell (lt_of_cell hc2)).trans hc2
      have e3 := ((unhide HW).cell (lt_of_cell hc3)).trans hc3
      have e4 := ((unhide HW).cell (lt_of_cell hc4)).trans hc4
      have e5 := ((unhide HW).cell (lt_of_cell hc5)).trans hc5
      have e6 := ((unhide HW).cell (lt_of_cell hc6)).trans hc6
      have e7 := ((unhide HW).cell (lt_of_cell hc7)).trans hc7
      have e8 := ((unhide HW).cell (lt_of_cell hc8)).trans hc8
      have ESP' : Hid (ssp (stO L k) = (sx', sy', sz')) := by show _ = _; unfold stO; rw [unhide EX']; rfl
      have EBX' : Hid (sbx (stO L k) = (n0', wt', cl', co', fr', to')) := by show _ = _; unfold stO; rw [unhide EX']; rfl
      clear hc0 hc1 hc2 hc3 hc4 hc5 hc6 hc7 hc8
      have EC : Hid (colB L (bn : Int) k = (decide (sx' = (bn : Int)) && co')) := by show _ = _; unfold colB coS; rw [unhide ESP']; unfold stO; rw [unhide EX']
      rw [unhide EC] at HH HM
      have hki : (k : Int) < L.length := by omega
      have hA := Below.alloc1 wr (.cells #[.string n0', .int .i64 wt', .int .i64 cl', .bool co', .int .i64 fr', .int .i64 to', .int .i64 sx', .int .i64 sy', .int .i64 sz'] 40)
      have HW1 := hide (Below.step (unhide HW) hA)
      have HB1 := hide ((unhide HB).step hA)
      have HS1 := hide ((unhide HS).step hA)
      have y6 := (unhide HS1).cell (i := 6) rfl
      clear EX' EBX' ESP' EC hA HW HB HS
      cases co' with
      | false =>
        rw [Bool.and_false] at HM
        replace HM := hide (unhide HM rfl)
        clear HH HQ
        go_wp2
        go_roundg (L.length - (k + 1))
        case measure => omega
        case rel => exact ⟨k + 1, q, by omega, rfl, by go_num, rfl, by omega, unhide HM, unhide HW1, unhide HB1, unhide HS1⟩
      | true =>
        by_cases hx : sx' = (bn : Int)
        · have hxx : (sx' == (bn : Int)) = true := by simp [hx]
          have hxd : decide (sx' = (bn : Int)) = true := by simp [hx]
          rw [hxd] at HH
          have HX := hide hx
          clear hx
          replace HH := hide (unhide HH rfl)
          have q1 : IntKind.i64.wrap ((q : Int) + 1) = ((q + 1 : Nat) : Int) := by rw [IntKind.wrap_i64]; omega
          clear HM HQ
          go_wp2
          go_roundg (L.length - (k + 1))
          case measure => omega
          case rel => first | exact ⟨k + 1, q + 1, by omega, rfl, by go_num, by go_num, by omega, unhide HH, unhide HW1, unhide HB1, unhide HS1⟩ | exact ⟨k + 1, q + 1, by omega, rfl, by go_num, rfl, by omega, unhide HH, unhide HW1, unhide HB1, unhide HS1⟩
        · have hxx : (sx' == (bn : Int)) = false := by simp [hx]
          have hxd : decide (sx' = (bn : Int)) = false := by simp [hx]
          rw [hxd] at HM
          replace HM := hide (unhide HM rfl)
          clear HH HQ
          go_wp2
          go_roundg (L.length - (k + 1))
          case measure => omega
          case rel => exact ⟨k + 1, q, by omega, rfl, by go_num, rfl, by omega, unhide HM, unhide HW1, unhide HB1, unhide HS1⟩
    · have hki : ¬ (k : Int) < L.length := by omega
      have hkk : k = L.length := by omega
      have E := hide (unhide HQ)
      rw [hkk] at E
      rw [← unhide E] at EB
      have v3' := ((unhide HW).cell (lt_of_cell (unhide HV3))).trans (unhide HV3)
      have b0 := (unhide HB).cell (i := 0) rfl
      have y6 := (unhide HS).cell (i := 6) rfl
      clear hkk HQ E
      by_cases hq3 : x3 < (q : Int)
      · have hqd : decide (x3 < (q : Int)) = true := by simp [hq3]
        rw [hqd] at EB
        go_wp2
        go_ret
        exact ⟨by rw [unhide EB]; rfl, unhide HW⟩
      · have hqd : decide (x3 < (q : Int)) = false := by simp; omega
        rw [hqd] at EB
        go_wp2
        go_ret
        exact ⟨by rw [unhide EB]; rfl, unhide HW⟩

set_option maxRecDepth 10000 in
set_option maxHeartbeats 6400000 in
theorem isTooNear_any (ho : Option Addr) (hcap : Nat) (ao : Option Addr) (cap : Nat) (H : List HatchT) (L : List StowT) (i : Nat) (w : World) (hH : RHatch w (.slice ho H.length hcap) H) (hL : RStow w (.slice ao L.length cap) L) (hi : i < L.length) :
    Calls Try.prog 45 #[.agg #[.slice ho H.length hcap, .slice ao L.length cap], .int .i64 (i : Int)] w fun e w' => e = .returned (.bool (failC H L 7 i)) ∧ Below w.heap.size w w' := by
  have HRL := hide hL
  have HRH := hide hH
  obtain ⟨ao', cap', eL, hl, hm, hc⟩ := hL
  obtain ⟨ho', hcap', eH, hhl, hhm, hhc⟩ := hH
  simp only [Value.slice.injEq, true_and] at eL eH
  obtain ⟨rfl, rfl⟩ := eL
  obtain ⟨rfl, rfl⟩ := eH
  unfold maxLen at hm hhm
  have HC := hide hc
  have HHC := hide hhc
  clear hc hhc
  have EF : Hid (failC H L 7 i = f7 L i) := rfl
  have HWr := hide (Below.alloc1 w (.cells #[.slice ho H.length hcap, .slice ao L.length cap] 57))
  obtain ⟨b, o, n0, wt, cl, co, fr, to, sx, sy, sz, rfl, hc0, hc1, hc2, hc3, hc4, hc5, hc6, hc7, hc8, EX⟩ := recStowAt (unhide HC) hi
  have g0 := ((unhide HWr).cell (lt_of_cell hc0)).trans hc0
  have g1 := ((unhide HWr).cell (lt_of_cell hc1)).trans hc1
  have g2 := ((unhide HWr).cell (lt_of_cell hc2)).trans hc2
  have g3 := ((unhide HWr).cell (lt_of_cell hc3)).trans hc3
  have g4 := ((unhide HWr).cell (lt_of_cell hc4)).trans hc4
  have g5 := ((unhide HWr).cell (lt_of_cell hc5)).trans hc5
  have g6 := ((unhide HWr).cell (lt_of_cell hc6)).trans hc6
  have g7 := ((unhide HWr).cell (lt_of_cell hc7)).trans hc7
  have g8 := ((unhide HWr).cell (lt_of_cell hc8)).trans hc8
  have ESP : Hid (ssp (stO L i) = (sx, sy, sz)) := by show _ = _; unfold stO; rw [unhide EX]; rfl
  have EBX : Hid (sbx (stO L i) = (n0, wt, cl, co, fr, to)) := by show _ = _; unfold stO; rw [unhide EX]; rfl
  clear hc0 hc1 hc2 hc3 hc4 hc5 hc6 hc7 hc8
  have hii : (i : Int) < L.length := by omega
  obtain ⟨V0, eV⟩ : ∃ V, V = (w.alloc (.cells #[.slice ho H.length hcap, .slice (some ⟨b, o, none⟩) L.length cap] 57)).alloc (.cells #[.string n0, .int .i64 wt, .int .i64 cl, .bool co, .int .i64 fr, .int .i64 to, .int .i64 sx, .int .i64 sy, .int .i64 sz] 40) := ⟨_, rfl⟩
  have HW : Hid (Below w.heap.size w V0) := by show Below _ _ _; rw [eV]; exact Below.step (Below.alloc1 _ _) (Below.alloc1 _ _)
  have HB : Hid (OwnV V0 w.heap.size [.slice ho H.length hcap, .slice (some ⟨b, o, none⟩) L.length cap]) := by
    show OwnV _ _ _
    rw [eV]
    exact OwnV.alloc (ownV_alloc w #[.slice ho H.length hcap, .slice (some ⟨b, o, none⟩) L.length cap] 57) _
  have HS : Hid (OwnV V0 (w.heap.size + 1) [.string n0, .int .i64 wt, .int .i64 cl, .bool co, .int .i64 fr, .int .i64 to, .int .i64 sx, .int .i64 sy, .int .i64 sz]) := by
    show OwnV _ _ _
    rw [eV]
    have h := ownV_alloc (w.alloc (.cells #[.slice ho H.length hcap, .slice (some ⟨b, o, none⟩) L.length cap] 57)) #[.string n0, .int .i64 wt, .int .i64 cl, .bool co, .int .i64 fr, .int .i64 to, .int .i64 sx, .int .i64 sy, .int .i64 sz] 40
    simp only [World.size_alloc] at h
    exact h
  have E1 : Hid ((∀ k, k < i → keepS (stO L k) (stO L i) = true) → failC H L 7 i = false) := fun h => (unhide EF).trans (f7_none h)
  have E2 : Hid (∀ k, k < i → keepS (stO L k) (stO L i) = false → failC H L 7 i = true) := fun k hk h => (unhide EF).trans (f7_hit hk h)
  have b1 := (unhide HB).cell (i := 1) rfl
  have hic : i ≤ cap := by omega
  have hici : (i : Int) ≤ cap := by omega
  clear EF HHC HRL HRH EX
  go_enter Try.func45, Try.ntmps45
  go_wp2
  go_loopg [18] i (fun g kv wr => ∃ k : Nat, k ≤ i ∧ g = i - k ∧ kv = .int .i64 k ∧ Hid (∀ r, r < k → keepS (stO L r) (stO L i) = true) ∧ Hid (Below w.heap.size w wr) ∧ Hid (OwnV wr (w.heap.size + 1) [.string n0, .int .i64 wt, .int .i64 cl, .bool co, .int .i64 fr, .int .i64 to, .int .i64 sx, .int .i64 sy, .int .i64 sz]))
  case atStart => exact ⟨0, Nat.zero_le _, rfl, rfl, fun r hr => by omega, eV ▸ unhide HW, eV ▸ unhide HS⟩
  case round =>
    clear HW HB HS eV b1
    obtain ⟨k, hk, rfl, rfl, HA, HW, HS⟩ := hrel
    by_cases hkn : k < i
    · have hkl : k < L.length := by omega
      have HAk := hide (unhide E2 k hkn)
      obtain ⟨b', o', n0', wt', cl', co', fr', to', sx', sy', sz', eBO, hc0, hc1, hc2, hc3, hc4, hc5, hc6, hc7, hc8, EX'⟩ := recStowAt (unhide HC) hkl
      simp only [Option.some.injEq, Addr.mk.injEq, and_true] at eBO
      obtain ⟨rfl, rfl⟩ := eBO
      have e0 := ((unhide HW).cell (lt_of_cell hc0)).trans hc0
      have e1 := ((unhide HW).cell (lt_of_cell hc1)).trans hc1
      have e2 := ((unhide HW).cell (lt_of_cell hc2)).trans hc2
      have e3 := ((unhide HW).cell (lt_of_cell hc3)).trans hc3
      have e4 := ((unhide HW).cell (lt_of_cell hc4)).trans hc4
      have e5 := ((unhide HW).cell (lt_of_cell hc5)).trans hc5
      have e6 := ((unhide HW).cell (lt_of_cell hc6)).trans hc6
      have e7 := ((unhide HW).cell (lt_of_cell hc7)).trans hc7
      have e8 := ((unhide HW).cell (lt_of_cell hc8)).trans hc8
      have ESP' : Hid (ssp (stO L k) = (sx', sy', sz')) := by show _ = _; unfold stO; rw [unhide EX']; rfl
      have EBX' : Hid (sbx (stO L k) = (n0', wt', cl', co', fr', to')) := by show _ = _; unfold stO; rw [unhide EX']; rfl
      clear hc0 hc1 hc2 hc3 hc4 hc5 hc6 hc7 hc8
      have EK : Hid (keepS (stO L k) (stO L i) = keepB (boxB n0 wt cl fr to) (boxB n0' wt' cl' fr' to') cl cl' sx sy sz sx' sy' sz') := by show _ = _; rw [keepS_symm]; unfold keepS boxT; rw [unhide EBX, unhide EBX', unhide ESP, unhide ESP']
      have HA1 : Hid (keepS (stO L k) (stO L i) = true → ∀ r, r < k + 1 → keepS (stO L r) (stO L i) = true) := fun h r hr => by
        by_cases e : r = k
        · rw [e]; exact h
        · exact unhide HA r (by omega)
      rw [unhide EK] at HAk HA1
      have hA := Below.alloc1 wr (.cells #[.string n0', .int .i64 wt', .int .i64 cl', .bool co', .int .i64 fr', .int .i64 to', .int .i64 sx', .int .i64 sy', .int .i64 sz'] 40)
      have HW1 := hide (Below.step (unhide HW) hA)
      have HS1 := hide ((unhide HS).step hA)
      have y0 := (unhide HS1).cell (i := 0) rfl
      have y1 := (unhide HS1).cell (i := 1) rfl
      have y2 := (unhide HS1).cell (i := 2) rfl
      have y3 := (unhide HS1).cell (i := 3) rfl
      have y4 := (unhide HS1).cell (i := 4) rfl
      have y5 := (unhide HS1).cell (i := 5) rfl
      have y6 := (unhide HS1).cell (i := 6) rfl
      have y7 := (unhide HS1).cell (i := 7) rfl
      have y8 := (unhide HS1).cell (i := 8) rfl
      have QK := hide fun V => implKeepsApart_any n0 wt cl co fr to sx sy sz n0' wt' cl' co' fr' to' sx' sy' sz' V
      unfold vBox v3 at QK
      have hki : (k : Int) < i := by omega
      have hkl2 : (k : Int) < L.length := by omega
      clear EX' EBX' ESP' EK E2 HA hA HW HS
      generalize keepB (boxB n0 wt cl fr to) (boxB n0' wt' cl' fr' to') cl cl' sx sy sz sx' sy' sz' = r at *
      go_wp2_with fail
      refine (unhide QK _).mono ?_
      rintro e w2 ⟨rfl, hb⟩
      replace HW1 := hide (Below.step (unhide HW1) hb)
      replace HS1 := hide ((unhide HS1).step hb)
      clear hb QK y0 y1 y2 y3 y4 y5 y6 y7 y8
      cases r with
      | false =>
        have E := hide (unhide HAk rfl)
        clear HAk HA1 E1
        go_wp2
        go_ret
        exact ⟨by rw [unhide E]; rfl, unhide HW1⟩
      | true =>
        replace HA1 := hide (unhide HA1 rfl)
        clear HAk
        go_wp2
        go_roundg (i - (k + 1))
        case measure => omega
        case rel => exact ⟨k + 1, by omega, rfl, by go_num, unhide HA1, unhide HW1, unhide HS1⟩
    · have hki : ¬ (k : Int) < i := by omega
      have hkk : k = i := by omega
      have E := hide (unhide E1 (by rw [← hkk]; rw [← hkk] at HA; exact unhide HA))
      clear hkk E1 E2
      go_wp2
      go_ret
      exact ⟨by rw [unhide E]; rfl, unhide HW⟩

end Go.Proofs.Ytnfdokcpjcnknaa
