/- FnExactAlarms: at every argument the program's Alarms answers as the specification's, in memory of its own; the arguments read as before. Written by wip/mkal2.py. -/
import Derived.Test.YtblkbonedgofiaaEnH
import Derived.Test.YtblkbonedgofiaaFlatE
import Derived.Test.YtblkbonedgofiaaOwnInts
namespace Go.Proofs.Ytblkbonedgofiaa
open Go.RowKit

set_option maxRecDepth 10000 in
set_option maxHeartbeats 8000000 in
theorem lawAlarms_any (xa xb xc : Int) (pv1 : Value) (L1 : List Int) (w : World) (h1 : IntsIn w pv1 L1) : Calls Try.prog 7 #[v3 (xa, xb, xc), pv1] w fun e w' => e = .returned (.bool true) ∧ Below w.heap.size w w' := by
  have HV1 := hide h1
  obtain ⟨ao1, cap1, rfl, hl1, hm1, hc1⟩ := h1
  unfold maxLen at hm1
  clear hc1
  have HW := hide (Below.alloc1 w (.cells #[.int .i64 xa, .int .i64 xb, .int .i64 xc] 46))
  have HB := hide (ownV_alloc w #[.int .i64 xa, .int .i64 xb, .int .i64 xc] 46)
  have hsB := (unhide HB).lt
  unfold v3
  by_cases hsn1 : L1.length ≤ 1048576
  case neg =>
    go_enter Try.func7, Try.ntmps7
    go_wp2
    go_ret
    exact ⟨rfl, unhide HW⟩
  have HSC := hide fun W v (hv : IntsIn W v L1) => specAlarms_any xa xb xc v L1 W hv
  have HIC := hide fun W v (hv : IntsIn W v L1) => implAlarms_any xa xb xc v L1 W hv
  have hMl : (alarmL xa xb xc L1).length ≤ 1048576 := by have := alarmL_len xa xb xc L1; omega
  generalize alarmL xa xb xc L1 = M at *
  generalize alarmB xa xb xc L1 = V at *
  have hVV : (V != V) = false := by cases V <;> rfl
  unfold v3 at HSC HIC
  go_enter Try.func7, Try.ntmps7
  have c0 := (unhide HB).cell (i := 0) rfl
  have c1 := (unhide HB).cell (i := 1) rfl
  have c2 := (unhide HB).cell (i := 2) rfl
  go_wp2_with fail
  refine (toAlarmRule_any xa xb xc _).mono ?_
  rintro e v1 ⟨rfl, hb⟩
  clear c0 c1 c2
  replace HW := hide (Below.step (unhide HW) hb)
  replace HB := hide ((unhide HB).step hb)
  have zp1 := hb.size
  clear hb
  go_wp2_with fail
  refine (toIntS_o _ L1 _ ((unhide HV1).below (unhide HW)) hsn1).mono ?_
  rintro e v2 ⟨gHA, rfl, hgHA, ho, hb⟩
  replace HW := hide (Below.step (unhide HW) hb)
  replace HB := hide ((unhide HB).step hb)
  have HA := hide ho
  have huHA := ho.lt
  have zzHA := hb.size
  clear ho hb
  go_wp2_with fail
  refine (unhide HSC _ _ (OwnV.intsIn (unhide HA) (Nat.le_refl _) (by unfold maxLen; omega))).mono ?_
  rintro e v3 ⟨a1, n1, cp1, rfl, hr, hb⟩
  replace HW := hide (Below.step (unhide HW) hb)
  replace HB := hide ((unhide HB).step hb)
  replace HA := hide ((unhide HA).step hb)
  have HS1 := hide hr.intsIn
  clear hr hb HSC
  clear HA
  have HZ := hide (Below.refl v3.heap.size v3)
  have hsz1 := (unhide HW).size
  have hsz0 : w.heap.size < v3.heap.size := (unhide HB).lt
  go_wp2_with fail
  refine (toIntS_o _ L1 _ ((unhide HV1).below (unhide HW)) hsn1).mono ?_
  rintro e v4 ⟨gHY, rfl, hgHY, ho, hb⟩
  replace HW := hide (Below.step (unhide HW) hb)
  replace HB := hide ((unhide HB).step hb)
  replace HZ := hide (Below.step (unhide HZ) hb)
  have HY := hide ho
  have huHY := ho.lt
  have zzHY := hb.size
  clear ho hb
  have hszy := (unhide HZ).size
  have c0 := (unhide HB).cell (i := 0) rfl
  have c1 := (unhide HB).cell (i := 1) rfl
  have c2 := (unhide HB).cell (i := 2) rfl
  go_wp2_with fail
  refine (toAlarmRule_any xa xb xc _).mono ?_
  rintro e v5 ⟨rfl, hb⟩
  clear c0 c1 c2
  replace HW := hide (Below.step (unhide HW) hb)
  replace HB := hide ((unhide HB).step hb)
  replace HZ := hide (Below.step (unhide HZ) hb)
  replace HY := hide ((unhide HY).step hb)
  have zp5 := hb.size
  clear hb
  go_wp2_with fail
  refine (unhide HIC _ _ (OwnV.intsIn (unhide HY) (Nat.le_refl _) (by unfold maxLen; omega))).mono ?_
  rintro e v6 ⟨a2, n2, cp2, rfl, hr, hb⟩
  replace HW := hide (Below.step (unhide HW) hb)
  replace HB := hide ((unhide HB).step hb)
  replace HZ := hide (Below.step (unhide HZ) hb)
  replace HY := hide ((unhide HY).step hb)
  have HG := hide hr.upto
  clear hr hb
  go_wp2_with fail
  refine (eqBoolS_o _ _ M _ (unhide HG).inn ((unhide HS1).below (unhide HZ))).mono ?_
  rintro e v7 ⟨rfl, hb⟩
  replace HW := hide (Below.step (unhide HW) hb)
  replace HB := hide ((unhide HB).step hb)
  replace HZ := hide (Below.step (unhide HZ) hb)
  replace HY := hide ((unhide HY).step hb)
  replace HG := hide ((unhide HG).below hb)
  clear hb
  go_wp2_with fail
  refine (toIntS_o _ L1 _ ((unhide HV1).below (unhide HW)) hsn1).mono ?_
  rintro e v8 ⟨gHE, rfl, hgHE, ho, hb⟩
  replace HW := hide (Below.step (unhide HW) hb)
  replace HB := hide ((unhide HB).step hb)
  replace HZ := hide (Below.step (unhide HZ) hb)
  replace HY := hide ((unhide HY).step hb)
  replace HG := hide ((unhide HG).below hb)
  have HE := hide ho
  have huHE := ho.lt
  have zzHE := hb.size
  clear ho hb
  go_wp2_with fail
  refine (eqIntS_o _ _ L1 _ (OwnV.intsIn (unhide HY) (Nat.le_refl _) (by unfold maxLen; omega)) (OwnV.intsIn (unhide HE) (Nat.le_refl _) (by unfold maxLen; omega))).mono ?_
  rintro e v9 ⟨rfl, hb⟩
  replace HW := hide (Below.step (unhide HW) hb)
  replace HB := hide ((unhide HB).step hb)
  replace HZ := hide (Below.step (unhide HZ) hb)
  replace HY := hide ((unhide HY).step hb)
  replace HG := hide ((unhide HG).below hb)
  replace HE := hide ((unhide HE).step hb)
  clear hb
  clear HE
  go_wp2_with fail
  refine (markInts_o gHY L1 1 _ (unhide HY) hsn1 (by omega) (by omega)).mono ?_
  rintro e v10 ⟨rfl, hk⟩
  replace HW := hide ((unhide HW).trans (hk.below (B := w.heap.size) (unhide HW).size (fun b e => by omega)))
  replace HZ := hide ((unhide HZ).trans (hk.below (B := v3.heap.size) (unhide HZ).size (fun b e => by omega)))
  replace HB := hide ((unhide HB).kept hk (fun e => by omega))
  replace HG := hide ((unhide HG).kept hk (fun b h1 h2 h3 => by omega))
  clear hk
  clear HY
  have hk0 : decide ((1 : Int) + (L1.length : Int) < 0) = false := by rw [decide_eq_false_iff_not]; omega
  go_wp2_with fail
  refine (eqBoolS_o _ _ M _ (unhide HG).inn ((unhide HS1).below (unhide HZ))).mono ?_
  rintro e v11 ⟨rfl, hb⟩
  replace HW := hide (Below.step (unhide HW) hb)
  replace HB := hide ((unhide HB).step hb)
  replace HZ := hide (Below.step (unhide HZ) hb)
  replace HG := hide ((unhide HG).below hb)
  clear hb
  go_wp2_with fail
  refine (markBoolS_v _ _ _ _ _ M _ (unhide HG) hMl).mono ?_
  rintro e v12 ⟨rfl, hk, hG⟩
  replace HW := hide ((unhide HW).trans (hk.below (B := w.heap.size) (unhide HW).size (fun b e => by omega)))
  replace HZ := hide ((unhide HZ).trans (hk.below (B := v3.heap.size) (unhide HZ).size (fun b e => by omega)))
  replace HB := hide ((unhide HB).kept hk (fun e => by omega))
  replace HG := hide hG
  clear hk hG hk0
  go_wp2_with fail
  refine (heldBoolS_v _ M _ (unhide HG).inn hMl).mono ?_
  rintro e v13 ⟨rfl, hb⟩
  replace HW := hide (Below.step (unhide HW) hb)
  replace HB := hide ((unhide HB).step hb)
  replace HZ := hide (Below.step (unhide HZ) hb)
  replace HG := hide ((unhide HG).below hb)
  clear hb
  have c0 := (unhide HB).cell (i := 0) rfl
  have c1 := (unhide HB).cell (i := 1) rfl
  have c2 := (unhide HB).cell (i := 2) rfl
  go_wp2_with fail
  refine (toAlarmRule_any xa xb xc _).mono ?_
  rintro e v14 ⟨rfl, hb⟩
  clear c0 c1 c2
  replace HW := hide (Below.step (unhide HW) hb)
  replace HB := hide ((unhide HB).step hb)
  replace HZ := hide (Below.step (unhide HZ) hb)
  replace HG := hide ((unhide HG).below hb)
  have zp14 := hb.size
  clear hb
  go_wp2_with fail
  refine (toIntS_o _ L1 _ ((unhide HV1).below (unhide HW)) hsn1).mono ?_
  rintro e v15 ⟨gHT, rfl, hgHT, ho, hb⟩
  replace HW := hide (Below.step (unhide HW) hb)
  replace HB := hide ((unhide HB).step hb)
  replace HZ := hide (Below.step (unhide HZ) hb)
  replace HG := hide ((unhide HG).below hb)
  have HT := hide ho
  have huHT := ho.lt
  have zzHT := hb.size
  clear ho hb
  go_wp2_with fail
  refine (unhide HIC _ _ (OwnV.intsIn (unhide HT) (Nat.le_refl _) (by unfold maxLen; omega))).mono ?_
  rintro e v16 ⟨a3, n3, cp3, rfl, hr, hb⟩
  replace HW := hide (Below.step (unhide HW) hb)
  replace HB := hide ((unhide HB).step hb)
  replace HZ := hide (Below.step (unhide HZ) hb)
  replace HG := hide ((unhide HG).below hb)
  replace HT := hide ((unhide HT).step hb)
  have HH := hide hr.upto
  clear hr hb
  clear HT
  go_wp2_with fail
  refine (eqBoolS_o _ _ M _ (unhide HH).inn ((unhide HS1).below (unhide HZ))).mono ?_
  rintro e v17 ⟨rfl, hb⟩
  replace HW := hide (Below.step (unhide HW) hb)
  replace HB := hide ((unhide HB).step hb)
  replace HZ := hide (Below.step (unhide HZ) hb)
  replace HG := hide ((unhide HG).below hb)
  replace HH := hide ((unhide HH).below hb)
  clear hb
  go_wp2_with fail
  refine (heldBoolS_v _ M _ (unhide HG).inn hMl).mono ?_
  rintro e v18 ⟨rfl, hb⟩
  replace HW := hide (Below.step (unhide HW) hb)
  replace HB := hide ((unhide HB).step hb)
  replace HZ := hide (Below.step (unhide HZ) hb)
  replace HG := hide ((unhide HG).below hb)
  replace HH := hide ((unhide HH).below hb)
  clear hb
  go_wp2
  go_ret
  exact ⟨rfl, unhide HW⟩

end Go.Proofs.Ytblkbonedgofiaa
