/- PumpAll in numbers; the specification's PumpAll. -/
import Derived.Test.YtblkbonedgofiaaDoorEnU2
import Derived.Test.YtblkbonedgofiaaDoorOwnInts
import Derived.Test.YtblkbonedgofiaaDoorSgA
import Derived.Deep.AppendLies
namespace Go.Proofs.YtblkbonedgofiaaDoor
open Go.RowKit

def pTanks (L : List I2) (P : List I3) : Nat → List I2
  | 0 => L
  | k + 1 => pumpL (pTanks L P k) (P.getD k default).1 (P.getD k default).2.1 (P.getD k default).2.2
def pCode (L : List I2) (P : List I3) (k : Nat) : Int := pumpC (pTanks L P k) (P.getD k default).1 (P.getD k default).2.1 (P.getD k default).2.2
def pCodes (L : List I2) (P : List I3) (k : Nat) : List Int := (List.range k).map (pCode L P)
def pCame (L : List I2) (P : List I3) : Nat → Int
  | 0 => 0
  | k + 1 => pCame L P k + if pCode L P k = 0 ∧ (P.getD k default).1 = -1 then (P.getD k default).2.2 else 0
def pWent (L : List I2) (P : List I3) : Nat → Int
  | 0 => 0
  | k + 1 => pWent L P k + if pCode L P k = 0 ∧ (P.getD k default).2.1 = -1 then (P.getD k default).2.2 else 0
theorem pTanks_len (L : List I2) (P : List I3) : ∀ k, (pTanks L P k).length = L.length := by
  intro k
  induction k with
  | zero => rfl
  | succ k ih => rw [pTanks, pumpL_len, ih]
theorem pCodes_len (L : List I2) (P : List I3) (k : Nat) : (pCodes L P k).length = k := by simp [pCodes]
theorem pCodes_next (L : List I2) (P : List I3) (k : Nat) : pCodes L P (k + 1) = pCodes L P k ++ [pCode L P k] := by simp [pCodes, List.range_succ]
theorem pumpC_good {L : List I2} {f t m : Int} (h : pumpC L f t m = 0) : -1 ≤ f ∧ -1 ≤ t ∧ 1 ≤ m ∧ m ≤ 1000000 := by
  unfold pumpC at h
  by_cases h1 : pumpOk1 L f t m = false
  · rw [if_pos h1] at h; omega
  · have h2 : pgB L.length f t m = true := by
      rw [Bool.not_eq_false] at h1
      unfold pumpOk1 at h1
      exact (Bool.and_eq_true_iff.1 h1).2
    have := pgB_parts h2
    omega
theorem pumpC_bd (L : List I2) (f t m : Int) : 0 ≤ pumpC L f t m ∧ pumpC L f t m ≤ 3 := by
  unfold pumpC
  split
  · omega
  · split
    · omega
    · split <;> omega
theorem pCame_bd (L : List I2) (P : List I3) : ∀ k, 0 ≤ pCame L P k ∧ pCame L P k ≤ 1000000 * (k : Int) ∧ 0 ≤ pWent L P k ∧ pWent L P k ≤ 1000000 * (k : Int) := by
  intro k
  induction k with
  | zero => simp [pCame, pWent]
  | succ k ih =>
    simp only [pCame, pWent]
    by_cases h : pCode L P k = 0
    · have := pumpC_good h
      split <;> split <;> omega
    · rw [if_neg (fun e => h e.1), if_neg (fun e => h e.1)]
      omega
def paN (P : List I3) : Nat := if P.length ≤ 60 then P.length else 0
theorem paN_le (P : List I3) : paN P ≤ 60 := by unfold paN; split <;> omega

theorem OwnFu.grown {B : Nat} {w w' : World} {v : Value} {L : List I2} {row : Option Nat} (h : OwnFu B w v L) (hg : w.grownBy w' row) (hr : ∀ k, row = some k → k < B) : OwnFu B w' v L := by
  obtain ⟨ao, cap, rfl, h1, h2, h3⟩ := h
  refine ⟨ao, cap, rfl, h1, h2, fun hne => ?_⟩
  obtain ⟨g, rfl, hgB, ho⟩ := h3 hne
  exact ⟨g, rfl, hgB, ho.of_block (hg.block g ho.lt (fun e => by have := hr g e.symm; omega))⟩
theorem OwnFu.belowF {B : Nat} {w w' : World} {v : Value} {L : List I2} (h : OwnFu B w v L) (hb : Below w.heap.size w w') : OwnFu B w' v L := by
  obtain ⟨ao, cap, rfl, h1, h2, h3⟩ := h
  refine ⟨ao, cap, rfl, h1, h2, fun hne => ?_⟩
  obtain ⟨g, rfl, hgB, ho⟩ := h3 hne
  exact ⟨g, rfl, hgB, ho.step hb⟩
theorem ints_snocV (xs : List Int) (x : Int) : ints (xs ++ [x]) = ints xs ++ [.int .i64 x] := by simp [ints]
theorem ret_all {v c v' : Value} {a b a' b' : Int} (e0 : v = v') (e1 : a = a') (e2 : b = b') : Ending.returned (.tuple #[v, c, .int .i64 a, .int .i64 b]) = Ending.returned (.tuple #[v', c, .int .i64 a', .int .i64 b']) := by rw [e0, e1, e2]

set_option maxRecDepth 100000 in
set_option maxHeartbeats 8000000 in
theorem specPumpAll_any (v pv : Value) (L : List I2) (P : List I3) (w : World) (h : R2 w v L) (hp : R3 w pv P) (hn : L.length ≤ 1048576) :
    Calls Tryd.prog 19 #[v, pv] w fun e w' => ∃ a n cp a2 n2 cp2, e = .returned (.tuple #[.slice a n cp, .slice a2 n2 cp2, .int .i64 (pCame L P (paN P)), .int .i64 (pWent L P (paN P))]) ∧ OwnFu w.heap.size w' (.slice a n cp) (pTanks L P (paN P)) ∧ OwnSl w.heap.size w' (.slice a2 n2 cp2) (pCodes L P (paN P)) ∧ Below w.heap.size w w' := by
  have HV := hide h
  obtain ⟨ao, cap, rfl, hl, hm, hc⟩ := h
  obtain ⟨po, pcap, rfl, hpl, hpm, hpc⟩ := hp
  unfold maxLen at hm hpm
  have HPC := hide hpc
  clear hc hpc
  obtain ⟨i1, hi', hy0, hy1, hy2⟩ := info_parts Tryd.infoFuel
  obtain ⟨i0, hinf, hz0, hz1, hz2⟩ := info_parts Tryd.info3
  have HM := hide (World.ownsRow_made (base := w.heap.size) (e := 32) (size := 2) w #[] 0 (Nat.le_refl _) (Nat.zero_le _) (by simp))
  have HA := hide (Below.alloc1 w (.cells #[] 32))
  have hs2 : (w.alloc (.cells #[] 32)).heap.size = w.heap.size + 1 := by simp
  obtain ⟨W2, eW2⟩ : ∃ z, z = w.alloc (.cells #[] 32) := ⟨_, rfl⟩
  rw [← eW2] at HM HA hs2
  have EW := hide eW2
  clear eW2
  have HSR := hide (recs_src ((unhide HV).below (unhide HA)))
  go_enter Tryd.func19, Tryd.ntmps19
  go_upto_region 2 with (at_builtin; refine wpList_append_whole rfl _ _ 24 rfl w.heap.size 32 i1 _ 2 16 Tryd.underlying24 hi' hy0 hy1 hy2 rfl (by decide) w.heap.size rfl (by rw [← unhide EW]; exact unhide HM) ao L.length cap (recCells 2 e2 L) rfl recCells_length (by rw [← unhide EW]; exact fun h => unhide HSR (by omega)) (fu_one L) (by unfold maxLen; omega) (by omega) (by rw [← unhide EW]; omega) ?_; intro g cap1 wa hown hgrow hat; rw [← unhide EW] at hgrow; have hb1 := (unhide HA).grown hgrow (by omega) (fun g hg => by simp at hg; omega); obtain ⟨how, hge, hcc, hcm⟩ := ownsRow_fu hown; have HO0 := hide (ownFu_of (n := L.length) rfl how hge hcc hcm); have HW0 := hide hb1; clear hown hgrow hat hb1 how HA HM HSR EW hs2 hge hcc hcm)
  have HR0 := hide (World.ownsRow_made (base := w.heap.size) (e := 3) (size := 1) wa #[] 0 (unhide HW0).size (Nat.zero_le _) (by simp))
  have HW1 := hide (Below.step (unhide HW0) (Below.alloc1 wa (.cells #[] 3)))
  have HO1 := hide ((unhide HO0).belowF (Below.alloc1 wa (.cells #[] 3)))
  clear HW0 HO0 hi' hy0 hy1 hy2
  have HNP : Hid (paN P = if P.length ≤ 60 then P.length else 0) := rfl
  have hN60 := paN_le P
  have hNP : paN P ≤ P.length := by unfold paN; split <;> omega
  obtain ⟨N, hNN⟩ : ∃ N, paN P = N := ⟨_, rfl⟩
  rw [hNN] at HNP hN60 hNP
  have HNE := hide hNN
  clear hNN
  go_wp2
  go_loopg [8, 9, 10, 11, 12] N (fun gg ov cv av bv iv wr => ∃ k : Nat, k ≤ N ∧ gg = N - k ∧ iv = .int .i64 k ∧ av = .int .i64 (pCame L P k) ∧ bv = .int .i64 (pWent L P k) ∧ Hid (Below w.heap.size w wr) ∧ (∃ a n cp, ov = .slice a n cp) ∧ (∃ a n cp, cv = .slice a n cp) ∧ Hid (OwnFu w.heap.size wr ov (pTanks L P k)) ∧ Hid (wr.ownsRow w.heap.size 3 1 cv k (ints (pCodes L P k))))
  case atStart => exact ⟨0, Nat.zero_le _, rfl, rfl, rfl, rfl, unhide HW1, ⟨_, _, _, rfl⟩, ⟨_, _, _, rfl⟩, unhide HO1, unhide HR0⟩
  case round =>
    clear HW1 HO1 HR0
    obtain ⟨k, hk, rfl, rfl, rfl, rfl, HW, ⟨a, n, cp, rfl⟩, ⟨a2, n2, cp2, rfl⟩, HO, HR⟩ := hrel
    obtain ⟨hA0, hA1, hB0, hB1⟩ := pCame_bd L P k
    have hsz := (unhide HW).size
    by_cases hkN : k < N
    · have h60 : P.length ≤ 60 := by
        have := unhide HNP
        by_cases e : P.length ≤ 60
        · exact e
        · rw [if_neg e] at this; omega
      obtain ⟨b, o, x, y, z, rfl, hx, hy, hz, EX⟩ := rec3At (unhide HPC) (show k < P.length by omega)
      have g0 := ((unhide HW).cell (lt_of_cell hx)).trans hx
      have g1 := ((unhide HW).cell (lt_of_cell hy)).trans hy
      have g2 := ((unhide HW).cell (lt_of_cell hz)).trans hz
      have hki : (k : Int) < P.length := by omega
      have h60i : (P.length : Int) ≤ 60 := by omega
      have HPM := hide fun V (hV : Below wr.heap.size wr V) => specPumped_any _ (pTanks L P k) x y z V ((unhide HO).intsIn.below hV) (by rw [pTanks_len]; exact hn)
      have ET : Hid (pTanks L P (k + 1) = pumpL (pTanks L P k) x y z) := by show _ = _; rw [pTanks, unhide EX]
      have EC : Hid (pCode L P k = pumpC (pTanks L P k) x y z) := by show _ = _; rw [pCode, unhide EX]
      have EA : Hid (pCame L P (k + 1) = pCame L P k + if pCode L P k = 0 ∧ x = -1 then z else 0) := by show _ = _; rw [pCame, unhide EX]
      have EB : Hid (pWent L P (k + 1) = pWent L P k + if pCode L P k = 0 ∧ y = -1 then z else 0) := by show _ = _; rw [pWent, unhide EX]
      have ES : Hid (ints (pCodes L P (k + 1)) = ints (pCodes L P k) ++ [.int .i64 (pCode L P k)]) := by show _ = _; rw [pCodes_next, ints_snocV]
      have HGD : Hid (pCode L P k = 0 → -1 ≤ x ∧ -1 ≤ y ∧ 1 ≤ z ∧ z ≤ 1000000) := fun e => pumpC_good (by rw [← unhide EC]; exact e)
      rw [← unhide ET, ← unhide EC] at HPM
      have hCl : (pCodes L P k).length = k := pCodes_len L P k
      have HCL := hide hCl
      have HX := hide fun V (hV : Below w.heap.size w V) => And.intro ((hV.cell (lt_of_cell hx)).trans hx) (And.intro ((hV.cell (lt_of_cell hy)).trans hy) ((hV.cell (lt_of_cell hz)).trans hz))
      clear hx hy hz EX ET EC hCl
      generalize pCode L P k = C at *
      generalize pCame L P k = A at *
      generalize pWent L P k = B at *
      unfold v3 at HPM
      go_wp2_with fail
      refine (unhide HPM _ (Below.refl _ _)).mono ?_
      rintro e w2 ⟨a', n', cp', rfl, hO, hb⟩
      have hsz2 := hb.size
      have HW2 := hide (Below.step (unhide HW) hb)
      have HR1 := hide (ownsRow_below (unhide HR) hb)
      have HLT := hide (unhide HR).lt
      have HO2 := hide (hO.belowF (Below.alloc1 w2 (.cells #[.int .i64 C] 3)))
      have HR2 := hide (ownsRow_below (unhide HR1) (Below.alloc1 w2 (.cells #[.int .i64 C] 3)))
      clear hO hb g0 g1 g2 HPM
      go_upto_region 10 with (at_builtin; refine wpList_append_lies _ rfl _ _ 28 rfl w.heap.size 3 i0 _ 1 8 Tryd.underlying28 hinf hz0 hz1 hz2 rfl (by decide) _ k _ rfl (unhide HR2) ⟨w2.heap.size, 0, none⟩ 1 1 [.int .i64 C] rfl rfl (cell_one_new _ _ _) (by simp [Value.oneCell']) (by omega) (by unfold maxLen; omega) (by omega) (by simp; omega) _ rfl ?_; intro g4 cap4 wa4 hown hgrow hat hlt4; have HWa := hide ((Below.step (unhide HW2) (Below.alloc1 w2 (.cells #[.int .i64 C] 3))).grown hgrow (by simp; omega) (fun g hg => ((unhide HLT) g hg).1)); have HOa := hide (((unhide HO2).grown hgrow (fun g hg => ((unhide HLT) g hg).2)).mono hsz); have HOW := hide hown; clear hown hgrow hat)
      rw [← unhide ES] at HOW
      obtain ⟨p0, p1, p2⟩ := unhide HX _ (unhide HWa)
      clear HR1 HR2 HO2 HLT HX HR HO HW HW2 ES
      by_cases hC0 : C = 0
      · obtain ⟨q0, q1, q2, q3⟩ := unhide HGD hC0
        have hc : (C == 0) = true := by rw [hC0]; rfl
        by_cases hx1 : x = -1
        · have d1 : decide (x < 0) = true := decide_eq_true (by omega)
          have E1 : Hid (pCame L P (k + 1) = A + z) := by show _ = _; rw [unhide EA, if_pos ⟨hC0, hx1⟩]
          by_cases hy1 : y = -1
          · have d2 : decide (y < 0) = true := decide_eq_true (by omega)
            have E2 : Hid (pWent L P (k + 1) = B + z) := by show _ = _; rw [unhide EB, if_pos ⟨hC0, hy1⟩]
            clear hC0 hx1 hy1 EA EB HGD
            go_wp2
            go_roundg (N - (k + 1))
            case measure => omega
            case rel => exact ⟨k + 1, by omega, rfl, by go_num, by rw [unhide E1], by rw [unhide E2], unhide HWa, ⟨_, _, _, rfl⟩, ⟨_, _, _, rfl⟩, unhide HOa, unhide HOW⟩
          · have d2 : decide (y < 0) = false := decide_eq_false (by omega)
            have E2 : Hid (pWent L P (k + 1) = B) := by show _ = _; rw [unhide EB, if_neg (fun h => hy1 h.2), Int.add_zero]
            clear hC0 hx1 hy1 EA EB HGD
            go_wp2
            go_roundg (N - (k + 1))
            case measure => omega
            case rel => exact ⟨k + 1, by omega, rfl, by go_num, by rw [unhide E1], by rw [unhide E2], unhide HWa, ⟨_, _, _, rfl⟩, ⟨_, _, _, rfl⟩, unhide HOa, unhide HOW⟩
        · have d1 : decide (x < 0) = false := decide_eq_false (by omega)
          have E1 : Hid (pCame L P (k + 1) = A) := by show _ = _; rw [unhide EA, if_neg (fun h => hx1 h.2), Int.add_zero]
          by_cases hy1 : y = -1
          · have d2 : decide (y < 0) = true := decide_eq_true (by omega)
            have E2 : Hid (pWent L P (k + 1) = B + z) := by show _ = _; rw [unhide EB, if_pos ⟨hC0, hy1⟩]
            clear hC0 hx1 hy1 EA EB HGD
            go_wp2
            go_roundg (N - (k + 1))
            case measure => omega
            case rel => exact ⟨k + 1, by omega, rfl, by go_num, by rw [unhide E1], by rw [unhide E2], unhide HWa, ⟨_, _, _, rfl⟩, ⟨_, _, _, rfl⟩, unhide HOa, unhide HOW⟩
          · have d2 : decide (y < 0) = false := decide_eq_false (by omega)
            have E2 : Hid (pWent L P (k + 1) = B) := by show _ = _; rw [unhide EB, if_neg (fun h => hy1 h.2), Int.add_zero]
            clear hC0 hx1 hy1 EA EB HGD
            go_wp2
            go_roundg (N - (k + 1))
            case measure => omega
            case rel => exact ⟨k + 1, by omega, rfl, by go_num, by rw [unhide E1], by rw [unhide E2], unhide HWa, ⟨_, _, _, rfl⟩, ⟨_, _, _, rfl⟩, unhide HOa, unhide HOW⟩
      · have hc : (C == 0) = false := by simpa using hC0
        have E1 : Hid (pCame L P (k + 1) = A) := by show _ = _; rw [unhide EA, if_neg (fun h => hC0 h.1), Int.add_zero]
        have E2 : Hid (pWent L P (k + 1) = B) := by show _ = _; rw [unhide EB, if_neg (fun h => hC0 h.1), Int.add_zero]
        clear hC0 EA EB HGD
        go_wp2
        go_roundg (N - (k + 1))
        case measure => omega
        case rel => exact ⟨k + 1, by omega, rfl, by go_num, by rw [unhide E1], by rw [unhide E2], unhide HWa, ⟨_, _, _, rfl⟩, ⟨_, _, _, rfl⟩, unhide HOa, unhide HOW⟩
    · have hkk : k = N := by omega
      subst hkk
      have HS := hide (ownsRow_ownSl (unhide HR)).1
      have HND : Hid ((k : Int) < P.length → (P.length : Int) ≤ 60 → False) := fun h1 h2 => by
        have := unhide HNP
        rw [if_pos (by omega)] at this
        omega
      by_cases h1 : (k : Int) < P.length
      · have h2 : ¬ (P.length : Int) ≤ 60 := fun h => unhide HND h1 h
        go_wp2
        refine bodyPost_ret (v := .tuple #[.slice a n cp, .slice a2 n2 cp2, .int .i64 (pCame L P k), .int .i64 (pWent L P k)]) (by simp [results, Tryd.results19, go_sem]) rfl ⟨_, _, _, _, _, _, by rw [unhide HNE], by rw [unhide HNE]; exact unhide HO, by rw [unhide HNE]; exact unhide HS, unhide HW⟩
      · go_wp2
        refine bodyPost_ret (v := .tuple #[.slice a n cp, .slice a2 n2 cp2, .int .i64 (pCame L P k), .int .i64 (pWent L P k)]) (by simp [results, Tryd.results19, go_sem]) rfl ⟨_, _, _, _, _, _, by rw [unhide HNE], by rw [unhide HNE]; exact unhide HO, by rw [unhide HNE]; exact unhide HS, unhide HW⟩

end Go.Proofs.YtblkbonedgofiaaDoor
