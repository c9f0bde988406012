/- The program's PumpAll. -/
import Derived.Test.YtblkbonedgofiaaDoorEnV
namespace Go.Proofs.YtblkbonedgofiaaDoor
open Go.RowKit

theorem codes_set (xs : List Int) (n : Nat) (h : xs.length < n) (c : Int) : (xs ++ List.replicate (n - xs.length) 0).set xs.length c = (xs ++ [c]) ++ List.replicate (n - (xs.length + 1)) 0 := by
  obtain ⟨d, hd⟩ : ∃ d, n - xs.length = d + 1 := ⟨n - xs.length - 1, by omega⟩
  have hd' : n - (xs.length + 1) = d := by omega
  rw [hd, hd', List.replicate_succ, List.set_append]
  simp
theorem ints_madeV (n : Nat) : (madeCells #[Value.int .i64 0] n).toList = ints (List.replicate n 0) := by
  apply List.ext_getElem?
  intro i
  by_cases h : i < n
  · simp [madeCells, ints, h, Nat.mod_one]
  · simp [madeCells, ints, h]
/-- The codes told so far. -/
def cdRow (L : List I2) (P : List I3) (n k : Nat) : List Int := pCodes L P k ++ List.replicate (n - k) 0
theorem cdRow_len {L : List I2} {P : List I3} {n k : Nat} (h : k ≤ n) : (cdRow L P n k).length = n := by simp [cdRow, pCodes_len]; omega
theorem cdRow_set {L : List I2} {P : List I3} {n k : Nat} (h : k < n) : (cdRow L P n k).set k (pCode L P k) = cdRow L P n (k + 1) := by
  have := codes_set (pCodes L P k) n (by rw [pCodes_len]; exact h) (pCode L P k)
  rw [pCodes_len] at this
  rw [cdRow, this, cdRow, pCodes_next]
theorem cdRow_done (L : List I2) (P : List I3) (n : Nat) : cdRow L P n n = pCodes L P n := by simp [cdRow]
def AllAns (L : List I2) (P : List I3) (w : World) (e : Ending) (w' : World) : Prop :=
  ∃ X a n cp a2 n2 cp2, e = .returned (.tuple #[.slice a n cp, .slice a2 n2 cp2, .int .i64 (pCame L P (paN P)), .int .i64 (pWent L P (paN P))]) ∧ w.heap.size ≤ X ∧ X ≤ w'.heap.size ∧ OwnFuU w.heap.size X w' (.slice a n cp) (pTanks L P (paN P)) ∧ OwnIntsU X w'.heap.size w' (.slice a2 n2 cp2) (pCodes L P (paN P)) ∧ Below w.heap.size w w'

set_option maxRecDepth 100000 in
set_option maxHeartbeats 8000000 in
theorem implPumpAll_any (v pv : Value) (L : List I2) (P : List I3) (w : World) (h : R2 w v L) (hp : R3 w pv P) (hn : L.length ≤ 1048576) (hg : Laid w) :
    Calls Tryd.prog 8 #[v, pv] w fun e w' => AllAns L P w e w' := by
  have HV := hide h
  have HLD := hide hg
  obtain ⟨ao, cap, rfl, hl, hm, hc⟩ := h
  obtain ⟨po, pcap, rfl, hpl, hpm, hpc⟩ := hp
  unfold maxLen at hm hpm
  have HPC := hide hpc
  clear hc hpc hg
  have HC := hide (ownCopyFuel_any ao L.length cap L w (unhide HV) hn)
  go_enter Tryd.func8, Tryd.ntmps8
  go_wp2_with fail
  refine (unhide HC).mono ?_
  rintro e w1 ⟨rfl, ho, hb⟩
  have HR0 := hide ho
  have hgl := ho.lt
  have HW0 := hide hb
  clear ho hb HC
  obtain ⟨g, eg⟩ : ∃ g, g = w.heap.size := ⟨_, rfl⟩
  have hge : w.heap.size ≤ g := by omega
  have hgs : g < w1.heap.size := by omega
  rw [show (Value.slice (some ⟨w.heap.size, 0, none⟩) L.length L.length) = Value.slice (some ⟨g, 0, none⟩) L.length L.length by rw [eg]]
  rw [← eg] at HR0
  have HEG := hide eg
  clear eg hgl
  by_cases hbig : 60 < (P.length : Int)
  · have HN0 : Hid (paN P = 0) := if_neg (by omega)
    go_wp2
    refine bodyPost_ret (v := .tuple #[.slice (some ⟨g, 0, none⟩) L.length L.length, .slice none 0 0, .int .i64 0, .int .i64 0]) (by simp [results, Tryd.results8, go_sem]) rfl ?_
    refine ⟨w1.heap.size, _, _, _, _, _, _, by rw [unhide HN0]; rfl, (unhide HW0).size, Nat.le_refl _, ?_, ?_, unhide HW0⟩
    · rw [unhide HN0]
      exact (ownFu_of (n := L.length) rfl (unhide HR0) hge (Nat.le_refl _) (by unfold maxLen; omega)).upto
    · rw [unhide HN0]
      exact ⟨none, 0, rfl, Nat.le_refl _, Nat.zero_le _, fun h => absurd rfl h⟩
  have HN0 : Hid (paN P = P.length) := if_pos (by omega)
  have hmk := run_make_row' (P := Tryd.prog) 28 3 (.int .i64 0) 8 Tryd.underlying28 Tryd.info3 rfl .i64 .i64 P.length (by omega) (by omega)
  have HD0 : Hid (OwnV (w1.alloc (.cells (madeCells #[.int .i64 0] P.length) 3)) w1.heap.size (ints (cdRow L P P.length 0))) := by
    have := ownV_alloc w1 (madeCells #[.int .i64 0] P.length) 3
    rw [ints_madeV] at this
    exact this
  have HW1 := hide (Below.step (unhide HW0) (Below.alloc1 w1 (.cells (madeCells #[.int .i64 0] P.length) 3)))
  have HR1 := hide ((unhide HR0).step (Below.alloc1 w1 (.cells (madeCells #[.int .i64 0] P.length) 3)))
  go_wp2
  clear hmk HW0 HR0
  obtain ⟨g2, eg2⟩ : ∃ g2, g2 = w1.heap.size := ⟨_, rfl⟩
  rw [← eg2] at HD0 ⊢
  have hgg : g < g2 := by omega
  have hgn : ¬ g2 = g := by omega
  have hgn' : ¬ g = g2 := by omega
  clear eg2 hgs
  go_loopg [10, 11, 25] P.length (fun gg av bv iv wr => ∃ k : Nat, k ≤ P.length ∧ gg = P.length - k ∧ iv = .int .i64 k ∧ av = .int .i64 (pCame L P k) ∧ bv = .int .i64 (pWent L P k) ∧ Hid (Below w.heap.size w wr) ∧ Hid (OwnV wr g (recCells 2 e2 (pTanks L P k))) ∧ Hid (OwnV wr g2 (ints (cdRow L P P.length k))))
  case atStart => exact ⟨0, Nat.zero_le _, rfl, rfl, rfl, rfl, unhide HW1, unhide HR1, unhide HD0⟩
  case round =>
    clear HW1 HR1 HD0
    obtain ⟨k, hk, rfl, rfl, rfl, rfl, HW, HR, HD⟩ := hrel
    obtain ⟨hA0, hA1, hB0, hB1⟩ := pCame_bd L P k
    by_cases hkN : k < P.length
    · obtain ⟨b, o, x, y, z, rfl, hx, hy, hz, EX⟩ := rec3At (unhide HPC) hkN
      have g0 := ((unhide HW).cell (lt_of_cell hx)).trans hx
      have g1 := ((unhide HW).cell (lt_of_cell hy)).trans hy
      have g2c := ((unhide HW).cell (lt_of_cell hz)).trans hz
      have hki : (k : Int) < P.length := by omega
      have hlen := pTanks_len L P k
      have HPM := hide fun V (hV : OwnV V g (recCells 2 e2 (pTanks L P k))) => pump_any g L.length (pTanks L P k) x y z V hV (by rw [hlen]; exact Nat.le_refl _) (by unfold maxLen; omega) (by rw [hlen]; exact hn)
      rw [hlen] at HPM
      have ET : Hid (pTanks L P (k + 1) = pumpL (pTanks L P k) x y z) := by show _ = _; rw [pTanks, unhide EX]
      have EC : Hid (pCode L P k = pumpC (pTanks L P k) x y z) := by show _ = _; rw [pCode, unhide EX]
      have EA : Hid (pCame L P (k + 1) = pCame L P k + if pCode L P k = 0 ∧ x = -1 then z else 0) := by show _ = _; rw [pCame, unhide EX]
      have EB : Hid (pWent L P (k + 1) = pWent L P k + if pCode L P k = 0 ∧ y = -1 then z else 0) := by show _ = _; rw [pWent, unhide EX]
      have HGD : Hid (pCode L P k = 0 → -1 ≤ x ∧ -1 ≤ y ∧ 1 ≤ z ∧ z ≤ 1000000) := fun e => pumpC_good (by rw [← unhide EC]; exact e)
      have HSET := hide (cdRow_set (L := L) (P := P) hkN)
      have HCLN := hide (cdRow_len (L := L) (P := P) (n := P.length) (k := k) hk)
      rw [← unhide ET, ← unhide EC] at HPM
      have HKC := hide fun V (hV : Laid V) => pumpCode_any (pCode L P k) V hV
      have HBx := hide (ownV_alloc wr #[.int .i64 x, .int .i64 y, .int .i64 z] 37)
      have HA := Below.alloc1 wr (.cells #[.int .i64 x, .int .i64 y, .int .i64 z] 37)
      have hgw := (unhide HR).lt
      have hg2w := (unhide HD).lt
      have HW1 := hide (Below.step (unhide HW) HA)
      have HR1 := hide ((unhide HR).step HA)
      have HD1 := hide ((unhide HD).step HA)
      clear hx hy hz EX ET EC hlen HA HW HR HD
      generalize pCode L P k = C at *
      generalize pCame L P k = A at *
      generalize pWent L P k = B at *
      obtain ⟨ev, eev⟩ : ∃ u, u = errV C := ⟨_, rfl⟩
      rw [← eev] at HPM HKC
      clear eev
      unfold v3 at HPM
      have c0 := (unhide HBx).cell (i := 0) rfl
      have c1 := (unhide HBx).cell (i := 1) rfl
      have c2 := (unhide HBx).cell (i := 2) rfl
      obtain ⟨gB, egB⟩ : ∃ u, u = wr.heap.size := ⟨_, rfl⟩
      go_wp2_with fail
      refine (unhide HPM _ (unhide HR1)).mono ?_
      rintro e w2 ⟨rfl, hkp, hR2⟩
      rw [← egB] at HBx ⊢
      have hgB1 : ¬ gB = g := by omega
      have hgB2 : ¬ gB = g2 := by omega
      have hgB3 : ¬ g2 = gB := by omega
      have HW2 := hide ((unhide HW1).trans (hkp.below (B := w.heap.size) (unhide HW1).size (fun b e => by omega)))
      have HD2 := hide ((unhide HD1).kept hkp (fun e => by omega))
      have HB2 := hide ((unhide HBx).kept hkp (fun e => by omega))
      have HR2 := hide hR2
      clear hkp hR2 HW1 HD1 HBx HR1 c0 c1 c2 HPM g0 g1 g2c egB
      go_wp2_with fail
      refine (unhide HKC _ ((unhide HLD).below (unhide HW2))).mono ?_
      rintro e w3 ⟨rfl, hb⟩
      replace HW2 := hide (Below.step (unhide HW2) hb)
      replace HD2 := hide ((unhide HD2).step hb)
      replace HB2 := hide ((unhide HB2).step hb)
      replace HR2 := hide ((unhide HR2).step hb)
      clear hb HKC
      have c0 := (unhide HB2).cell (i := 0) rfl
      have c1 := (unhide HB2).cell (i := 1) rfl
      have c2 := (unhide HB2).cell (i := 2) rfl
      have fz := (unhide HD2).frozen k
      have ck := (unhide HD2).cell (ints_get _ (show k < (cdRow L P P.length k).length by rw [unhide HCLN]; exact hkN))
      have HW3 := hide (Below.setCell (p := ⟨g2, k, none⟩) (unhide HW2) (show w.heap.size ≤ g2 by omega) (.int .i64 C))
      have HR3 : Hid (OwnV (w3.setCell ⟨g2, k, none⟩ (.int .i64 C)) g (recCells 2 e2 (pTanks L P (k + 1)))) := (unhide HR2).other (a := ⟨g2, k, none⟩) hgn' _
      have HD3 : Hid (OwnV (w3.setCell ⟨g2, k, none⟩ (.int .i64 C)) g2 (ints (cdRow L P P.length (k + 1)))) := by
        have := (unhide HD2).set k (.int .i64 C) (by rw [ints_length, unhide HCLN]; exact hkN)
        rw [ints_set, unhide HSET] at this
        exact this
      clear HW2 HR2 HD2 HSET HCLN
      by_cases hC0 : C = 0
      · obtain ⟨q0, q1, q2, q3⟩ := unhide HGD hC0
        have hc : (C != 0) = false := by rw [hC0]; rfl
        by_cases hx1 : x = -1
        · by_cases hy1 : y = -1
          · have E1 : Hid (pCame L P (k + 1) = A + z) := by show _ = _; rw [unhide EA, if_pos ⟨hC0, hx1⟩]
            have b1 : (x == -1) = true := by rw [hx1]; rfl
            have E2 : Hid (pWent L P (k + 1) = B + z) := by show _ = _; rw [unhide EB, if_pos ⟨hC0, hy1⟩]
            have b2 : (y == -1) = true := by rw [hy1]; rfl
            have HH := hide (And.intro hC0 hy1)
            clear hC0 hx1 hy1
            clear EA EB HGD
            go_wp2
            go_roundg (P.length - (k + 1))
            case measure => omega
            case rel => exact ⟨k + 1, by omega, rfl, by go_num, by rw [unhide E1], by rw [unhide E2], unhide HW3, unhide HR3, unhide HD3⟩
          · have E1 : Hid (pCame L P (k + 1) = A + z) := by show _ = _; rw [unhide EA, if_pos ⟨hC0, hx1⟩]
            have b1 : (x == -1) = true := by rw [hx1]; rfl
            have E2 : Hid (pWent L P (k + 1) = B) := by show _ = _; rw [unhide EB, if_neg (fun h => hy1 h.2), Int.add_zero]
            have b2 : (y == -1) = false := by simpa using hy1
            have HH := hide (And.intro hC0 hy1)
            clear hC0 hx1 hy1
            clear EA EB HGD
            go_wp2
            go_roundg (P.length - (k + 1))
            case measure => omega
            case rel => exact ⟨k + 1, by omega, rfl, by go_num, by rw [unhide E1], by rw [unhide E2], unhide HW3, unhide HR3, unhide HD3⟩
        · by_cases hy1 : y = -1
          · have E1 : Hid (pCame L P (k + 1) = A) := by show _ = _; rw [unhide EA, if_neg (fun h => hx1 h.2), Int.add_zero]
            have b1 : (x == -1) = false := by simpa using hx1
            have E2 : Hid (pWent L P (k + 1) = B + z) := by show _ = _; rw [unhide EB, if_pos ⟨hC0, hy1⟩]
            have b2 : (y == -1) = true := by rw [hy1]; rfl
            have HH := hide (And.intro hC0 hy1)
            clear hC0 hx1 hy1
            clear EA EB HGD
            go_wp2
            go_roundg (P.length - (k + 1))
            case measure => omega
            case rel => exact ⟨k + 1, by omega, rfl, by go_num, by rw [unhide E1], by rw [unhide E2], unhide HW3, unhide HR3, unhide HD3⟩
          · have E1 : Hid (pCame L P (k + 1) = A) := by show _ = _; rw [unhide EA, if_neg (fun h => hx1 h.2), Int.add_zero]
            have b1 : (x == -1) = false := by simpa using hx1
            have E2 : Hid (pWent L P (k + 1) = B) := by show _ = _; rw [unhide EB, if_neg (fun h => hy1 h.2), Int.add_zero]
            have b2 : (y == -1) = false := by simpa using hy1
            have HH := hide (And.intro hC0 hy1)
            clear hC0 hx1 hy1
            clear EA EB HGD
            go_wp2
            go_roundg (P.length - (k + 1))
            case measure => omega
            case rel => exact ⟨k + 1, by omega, rfl, by go_num, by rw [unhide E1], by rw [unhide E2], unhide HW3, unhide HR3, unhide HD3⟩
      · have hc : (C != 0) = true := by simpa using hC0
        have E1 : Hid (pCame L P (k + 1) = A) := by show _ = _; rw [unhide EA, if_neg (fun h => hC0 h.1), Int.add_zero]
        have E2 : Hid (pWent L P (k + 1) = B) := by show _ = _; rw [unhide EB, if_neg (fun h => hC0 h.1), Int.add_zero]
        clear hC0
        clear EA EB HGD
        go_wp2
        go_roundg (P.length - (k + 1))
        case measure => omega
        case rel => exact ⟨k + 1, by omega, rfl, by go_num, by rw [unhide E1], by rw [unhide E2], unhide HW3, unhide HR3, unhide HD3⟩
    · obtain rfl : k = P.length := by omega
      go_wp2
      refine bodyPost_ret (v := .tuple #[.slice (some ⟨g, 0, none⟩) L.length L.length, .slice (some ⟨g2, 0, none⟩) P.length P.length, .int .i64 (pCame L P P.length), .int .i64 (pWent L P P.length)]) (by simp [results, Tryd.results8, go_sem]) rfl ?_
      refine ⟨g2, _, _, _, _, _, _, by rw [unhide HN0], by omega, Nat.le_of_lt (unhide HD).lt, ?_, ?_, unhide HW⟩
      · rw [unhide HN0]
        exact ⟨_, L.length, by rw [pTanks_len], by rw [pTanks_len]; exact Nat.le_refl _, by unfold maxLen; omega, fun _ => ⟨g, rfl, hge, hgg, unhide HR⟩⟩
      · rw [unhide HN0]
        have hD := unhide HD
        rw [cdRow_done] at hD
        exact ⟨_, P.length, by rw [pCodes_len], by rw [pCodes_len]; exact Nat.le_refl _, by unfold maxLen; omega, fun _ => ⟨g2, rfl, Nat.le_refl _, hD.lt, hD⟩⟩

end Go.Proofs.YtblkbonedgofiaaDoor
