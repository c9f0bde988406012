/- Cranes: contracts of both RunMoves. -/
import Derived.Test.YtogoknldhimgfaaCrE
import Derived.Test.YtogoknldhimgfaaOwnInts
import Derived.Test.YtogoknldhimgfaaSgA
import Derived.Deep.AppendLies
namespace Go.Proofs.Ytogoknldhimgfaa
open Go.RowKit

theorem OwnR.grownG {α : Type} [Inhabited α] {n : Nat} {enc : α → Nat → Value} {B : Nat} {w w' : World} {v : Value} {L : List α} {row : Option Nat} (h : OwnR n enc B w v L) (hg : w.grownBy w' row) (hr : ∀ k, row = some k → k < B) : OwnR n enc B w' v L := by
  obtain ⟨ao, cap, rfl, h1, h2, h3⟩ := h
  refine ⟨ao, cap, rfl, h1, h2, fun hne => ?_⟩
  obtain ⟨g, rfl, hgB, ho⟩ := h3 hne
  exact ⟨g, rfl, hgB, ho.of_block (hg.block g ho.lt (fun e => by have := hr g e.symm; omega))⟩
theorem ints_snocH (xs : List Int) (x : Int) : ints (xs ++ [x]) = ints xs ++ [.int .i64 x] := by simp [ints]
theorem codes_setH (xs : List Int) (n : Nat) (h : xs.length < n) (c : Int) : (xs ++ List.replicate (n - xs.length) 0).set xs.length c = (xs ++ [c]) ++ List.replicate (n - (xs.length + 1)) 0 := by
  obtain ⟨d, hd⟩ : ∃ d, n - xs.length = d + 1 := ⟨n - xs.length - 1, by omega⟩
  have hd' : n - (xs.length + 1) = d := by omega
  rw [hd, hd', List.replicate_succ, List.set_append]
  simp
theorem ints_madeH (n : Nat) : (madeCells #[Value.int .i64 0] n).toList = ints (List.replicate n 0) := by
  apply List.ext_getElem?
  intro i
  by_cases h : i < n
  · simp [madeCells, ints, h, Nat.mod_one]
  · simp [madeCells, ints, h]
/-- The codes told so far. -/
def cdM (L : List CraneT) (gap : Int) (P : List MoveT) (n k : Nat) : List Int := rmCs L gap P k ++ List.replicate (n - k) 0
section
variable {L : List CraneT} {gap : Int} {P : List MoveT} {n k : Nat}
theorem cdM_len (h : k ≤ n) : (cdM L gap P n k).length = n := by simp [cdM, rmCs_len]; omega
theorem cdM_set (h : k < n) : (cdM L gap P n k).set k (rmC L gap P k) = cdM L gap P n (k + 1) := by
  have := codes_setH (rmCs L gap P k) n (by rw [rmCs_len]; exact h) (rmC L gap P k)
  rw [rmCs_len] at this
  rw [cdM, this, cdM, rmCs_next]
theorem cdM_done : cdM L gap P n n = rmCs L gap P n := by simp [cdM]
theorem cdM_zero : cdM L gap P n 0 = List.replicate n 0 := by simp [cdM, rmCs]
end
def RmAnsS (L : List CraneT) (P : List MoveT) (gap : Int) (w : World) (e : Ending) (w' : World) : Prop :=
  ∃ a n cp a2 n2 cp2, e = .returned (.tuple #[.slice a n cp, .slice a2 n2 cp2]) ∧ OwnR 3 eCrane w.heap.size w' (.slice a n cp) (rmL L gap P (rmN P)) ∧ OwnSl w.heap.size w' (.slice a2 n2 cp2) (rmCs L gap P (rmN P)) ∧ Below w.heap.size w w'
def RmAns (L : List CraneT) (P : List MoveT) (gap : Int) (w : World) (e : Ending) (w' : World) : Prop :=
  ∃ X a n cp a2 n2 cp2, e = .returned (.tuple #[.slice a n cp, .slice a2 n2 cp2]) ∧ w.heap.size ≤ X ∧ X ≤ w'.heap.size ∧ OwnRU 3 eCrane w.heap.size X w' (.slice a n cp) (rmL L gap P (rmN P)) ∧ OwnIntsU X w'.heap.size w' (.slice a2 n2 cp2) (rmCs L gap P (rmN P)) ∧ Below w.heap.size w w'

set_option maxRecDepth 100000 in
set_option maxHeartbeats 8000000 in
theorem specRunMoves_any (v pv : Value) (L : List CraneT) (P : List MoveT) (gap : Int) (w : World) (h : RCrane w v L) (hp : RMove w pv P) (hn : L.length ≤ 1048576) :
    Calls Try.prog 46 #[v, .int .i64 gap, pv] w (RmAnsS L P gap w) := by
  have Q1 := hide (l17Copy_any v L w h hn)
  obtain ⟨ao, cap, rfl, hl, hm, hc⟩ := h
  obtain ⟨po, pcap, rfl, hpl, hpm, hpc⟩ := hp
  unfold maxLen at hm hpm
  have HPC := hide hpc
  clear hc hpc
  obtain ⟨i0, hinf, hz0, hz1, hz2⟩ := info_parts Try.info3
  go_enter Try.func46, Try.ntmps46
  go_wp2_with fail
  refine (unhide Q1).mono ?_
  rintro e wa ⟨sa, sc, rfl, hr, hb⟩
  have HR0 := hide (World.ownsRow_made (base := w.heap.size) (e := 3) (size := 1) wa #[] 0 hb.size (Nat.zero_le _) (by simp))
  have HW1 := hide (Below.step hb (Below.alloc1 wa (.cells #[] 3)))
  have HO1 := hide ((hr.own (by decide)).below (Below.alloc1 wa (.cells #[] 3)))
  clear hr hb Q1
  have HNP : Hid (rmN P = if P.length ≤ 60 then P.length else 0) := rfl
  have hN60 := rmN_le P
  have hNP : rmN P ≤ P.length := by unfold rmN; split <;> omega
  obtain ⟨N, hNN⟩ : ∃ N, rmN P = N := ⟨_, rfl⟩
  rw [hNN] at HNP hN60 hNP
  have HNE := hide hNN
  clear hNN
  go_wp2
  go_loopg [8, 9, 10] N (fun gg ov cv iv wr => ∃ k : Nat, k ≤ N ∧ gg = N - k ∧ iv = .int .i64 k ∧ Hid (Below w.heap.size w wr) ∧ (∃ a n cp, ov = .slice a n cp) ∧ (∃ a n cp, cv = .slice a n cp) ∧ Hid (OwnR 3 eCrane w.heap.size wr ov (rmL L gap P k)) ∧ Hid (wr.ownsRow w.heap.size 3 1 cv k (ints (rmCs L gap P k))))
  case atStart => exact ⟨0, Nat.zero_le _, rfl, rfl, unhide HW1, ⟨_, _, _, rfl⟩, ⟨_, _, _, rfl⟩, unhide HO1, unhide HR0⟩
  case round =>
    clear HW1 HO1 HR0
    obtain ⟨k, hk, rfl, rfl, HW, ⟨a, n, cp, rfl⟩, ⟨a2, n2, cp2, rfl⟩, HO, HR⟩ := hrel
    have hsz := (unhide HW).size
    by_cases hkN : k < N
    · have h60 : P.length ≤ 60 := by
        have := unhide HNP
        by_cases e : P.length ≤ 60
        · exact e
        · rw [if_neg e] at this; omega
      obtain ⟨b, o, x0, x1, rfl, hx0, hx1, EX⟩ := recMoveAt (unhide HPC) (show k < P.length by omega)
      have g0 := wcell3 hx0 (unhide HW)
      have g1 := wcell3 hx1 (unhide HW)
      have hki : (k : Int) < P.length := by omega
      have h60i : (P.length : Int) ≤ 60 := by omega
      have HPM := hide fun V (hV : Below wr.heap.size wr V) => specDoMove_any _ (rmL L gap P k) gap x0 x1 V ((unhide HO).intsIn.below hV) (by rw [rmL_len]; exact hn)
      have ex : mov P k = (x0, x1) := unhide EX
      have ET : Hid (rmL L gap P (k + 1) = mvL (rmL L gap P k) gap x0 x1) := by show _ = _; rw [rmL, ex]
      have EC : Hid (rmC L gap P k = mvC (rmL L gap P k) gap x0 x1) := by show _ = _; rw [rmC, ex]
      have ES : Hid (ints (rmCs L gap P (k + 1)) = ints (rmCs L gap P k) ++ [.int .i64 (rmC L gap P k)]) := by show _ = _; rw [rmCs_next, ints_snocH]
      unfold MvAns at HPM
      rw [← unhide ET, ← unhide EC] at HPM
      clear hx0 hx1 EX ET EC ex
      generalize rmC L gap P k = C at *
      unfold vMove at HPM
      go_wp2_with fail
      refine (unhide HPM _ (Below.refl _ _)).mono ?_
      rintro e w2 ⟨a', n', cp', rfl, hO, hb⟩
      have hsz2 := hb.size
      have HW2 := hide (Below.step (unhide HW) hb)
      have HR1 := hide (ownsRow_below (unhide HR) hb)
      have HLT := hide (unhide HR).lt
      have HO2 := hide (hO.below (Below.alloc1 w2 (.cells #[.int .i64 C] 3)))
      have HR2 := hide (ownsRow_below (unhide HR1) (Below.alloc1 w2 (.cells #[.int .i64 C] 3)))
      clear hO hb g0 g1 HPM
      go_wp2_with (at_builtin; refine wpList_append_lies _ rfl _ _ 48 rfl w.heap.size 3 i0 _ 1 8 Try.underlying48 hinf hz0 hz1 hz2 rfl (by decide) _ k _ rfl (unhide HR2) ⟨w2.heap.size, 0, none⟩ 1 1 [.int .i64 C] rfl rfl (cell_one_new _ _ _) (by simp [Value.oneCell']) (by omega) (by unfold maxLen; omega) (by omega) (by simp; omega) _ rfl ?_; intro g4 cap4 wa4 hown hgrow hat hlt4; have HWa := hide ((Below.step (unhide HW2) (Below.alloc1 w2 (.cells #[.int .i64 C] 3))).grown hgrow (by simp; omega) (fun g hg => ((unhide HLT) g hg).1)); have HOa := hide (((unhide HO2).grownG hgrow (fun g hg => ((unhide HLT) g hg).2)).mono hsz); have HOW := hide hown; clear hown hgrow hat)
      rw [← unhide ES] at HOW
      go_roundg (N - (k + 1))
      case measure => omega
      case rel => exact ⟨k + 1, by omega, rfl, by go_num, unhide HWa, ⟨_, _, _, rfl⟩, ⟨_, _, _, rfl⟩, unhide HOa, unhide HOW⟩
    · have hkk : k = N := by omega
      subst hkk
      have HS := hide (ownsRow_ownSl (unhide HR)).1
      have HND : Hid ((k : Int) < P.length → (P.length : Int) ≤ 60 → False) := fun h1 h2 => by
        have := unhide HNP
        rw [if_pos (by omega)] at this
        omega
      by_cases h1 : (k : Int) < P.length
      · have h2 : ¬ (P.length : Int) ≤ 60 := fun h => unhide HND h1 h
        go_wp2
        refine bodyPost_ret (v := .tuple #[.slice a n cp, .slice a2 n2 cp2]) (by simp [results, Try.results46, go_sem]) rfl ⟨_, _, _, _, _, _, rfl, by rw [unhide HNE]; exact unhide HO, by rw [unhide HNE]; exact unhide HS, unhide HW⟩
      · go_wp2
        refine bodyPost_ret (v := .tuple #[.slice a n cp, .slice a2 n2 cp2]) (by simp [results, Try.results46, go_sem]) rfl ⟨_, _, _, _, _, _, rfl, by rw [unhide HNE]; exact unhide HO, by rw [unhide HNE]; exact unhide HS, unhide HW⟩

set_option maxRecDepth 100000 in
set_option maxHeartbeats 8000000 in
theorem implRunMoves_any (v pv : Value) (L : List CraneT) (P : List MoveT) (gap : Int) (w : World) (h : RCrane w v L) (hp : RMove w pv P) (hn : L.length ≤ 1048576) :
    Calls Try.prog 25 #[v, .int .i64 gap, pv] w (RmAns L P gap w) := by
  have HV := hide h
  obtain ⟨ao, cap, rfl, hl, hm, hc⟩ := h
  obtain ⟨po, pcap, rfl, hpl, hpm, hpc⟩ := hp
  unfold maxLen at hm hpm
  have HPC := hide hpc
  clear hc hpc
  have HC := hide (ownCopyCrane_any ao L.length cap L w (unhide HV) hn)
  go_enter Try.func25, Try.ntmps25
  go_wp2_with fail
  refine (unhide HC).mono ?_
  rintro e w1 ⟨rfl, ho, hb⟩
  have HR0 := hide ho
  have HW0 := hide hb
  clear ho hb HC
  obtain ⟨g1, eg1⟩ : ∃ g, g = w.heap.size := ⟨_, rfl⟩
  rw [← eg1] at HR0 ⊢
  have hg1w : w.heap.size ≤ g1 := by omega
  have hg1l := (unhide HR0).lt
  clear eg1
  by_cases hbig : 60 < (P.length : Int)
  · have HN0 : Hid (rmN P = 0) := if_neg (by omega)
    go_wp2
    refine bodyPost_ret (v := .tuple #[.slice (some ⟨g1, 0, none⟩) L.length L.length, .slice none 0 0]) (by simp [results, Try.results25, go_sem]) rfl ?_
    refine ⟨w1.heap.size, _, _, _, _, _, _, rfl, (unhide HW0).size, Nat.le_refl _, ?_, ?_, unhide HW0⟩
    · rw [unhide HN0]
      exact ⟨_, _, rfl, Nat.le_refl _, by unfold maxLen; omega, fun _ => ⟨g1, rfl, hg1w, hg1l, unhide HR0⟩⟩
    · rw [unhide HN0]
      exact ⟨none, 0, rfl, Nat.le_refl _, Nat.zero_le _, fun h => absurd rfl h⟩
  have HN0 : Hid (rmN P = P.length) := if_pos (by omega)
  have hmk := run_make_row' (P := Try.prog) 48 3 (.int .i64 0) 8 Try.underlying48 Try.info3 rfl .i64 .i64 P.length (by omega) (by omega)
  have HD0 : Hid (OwnV (w1.alloc (.cells (madeCells #[.int .i64 0] P.length) 3)) w1.heap.size (ints (cdM L gap P P.length 0))) := by
    have := ownV_alloc w1 (madeCells #[.int .i64 0] P.length) 3
    rw [ints_madeH, ← cdM_zero (L := L) (gap := gap) (P := P)] at this
    exact this
  have HW1 := hide (Below.step (unhide HW0) (Below.alloc1 w1 (.cells (madeCells #[.int .i64 0] P.length) 3)))
  have HR1 : Hid (OwnV (w1.alloc (.cells (madeCells #[.int .i64 0] P.length) 3)) g1 (recCells 3 eCrane (rmL L gap P 0))) := (unhide HR0).step (Below.alloc1 w1 (.cells (madeCells #[.int .i64 0] P.length) 3))
  have hw01 := (unhide HW0).size
  go_wp2
  clear hmk HW0 HR0
  obtain ⟨g2, eg2⟩ : ∃ g2, g2 = w1.heap.size := ⟨_, rfl⟩
  rw [← eg2] at HD0 ⊢
  have hgw : w.heap.size ≤ g2 := by omega
  have h12 : g1 < g2 := by omega
  clear eg2 hw01 hg1l
  go_loopg [23] P.length (fun gg iv wr => ∃ k : Nat, k ≤ P.length ∧ gg = P.length - k ∧ iv = .int .i64 k ∧ Hid (Below w.heap.size w wr) ∧ Hid (OwnV wr g1 (recCells 3 eCrane (rmL L gap P k))) ∧ Hid (OwnV wr g2 (ints (cdM L gap P P.length k))))
  case atStart => exact ⟨0, Nat.zero_le _, rfl, rfl, unhide HW1, unhide HR1, unhide HD0⟩
  case round =>
    clear HW1 HR1 HD0
    obtain ⟨k, hk, rfl, rfl, HW, HR, HD⟩ := hrel
    by_cases hkN : k < P.length
    · obtain ⟨b, o, x0, x1, rfl, hx0, hx1, EX⟩ := recMoveAt (unhide HPC) hkN
      have g0 := wcell3 hx0 (unhide HW)
      have g1c := wcell3 hx1 (unhide HW)
      have hki : (k : Int) < P.length := by omega
      have HPM := hide fun V (hV : OwnV V g1 (recCells 3 eCrane (rmL L gap P k))) => moveCrane_any g1 L.length (rmL L gap P k) gap x0 x1 V hV (by rw [rmL_len]; exact Nat.le_refl _) hn
      rw [rmL_len] at HPM
      have ex : mov P k = (x0, x1) := unhide EX
      have ET : Hid (rmL L gap P (k + 1) = mvL (rmL L gap P k) gap x0 x1) := by show _ = _; rw [rmL, ex]
      have EC : Hid (rmC L gap P k = mvC (rmL L gap P k) gap x0 x1) := by show _ = _; rw [rmC, ex]
      have HSET := hide (cdM_set (L := L) (gap := gap) (P := P) hkN)
      have HCLN := hide (cdM_len (L := L) (gap := gap) (P := P) (n := P.length) (k := k) hk)
      rw [← unhide ET, ← unhide EC] at HPM
      have HBx := hide (ownV_alloc wr #[.int .i64 x0, .int .i64 x1] 42)
      have HA := Below.alloc1 wr (.cells #[.int .i64 x0, .int .i64 x1] 42)
      have HW1 := hide (Below.step (unhide HW) HA)
      have HD1 := hide ((unhide HD).step HA)
      have HR1 := hide ((unhide HR).step HA)
      clear hx0 hx1 EX ET EC HA HW HR HD ex
      generalize rmC L gap P k = C at *
      unfold vMove at HPM
      have c0 := (unhide HBx).cell (i := 0) rfl
      have c1 := (unhide HBx).cell (i := 1) rfl
      go_wp2_with fail
      refine (unhide HPM _ (unhide HR1)).mono ?_
      rintro e w3 ⟨rfl, hO, hkp⟩
      have HW2 := hide ((unhide HW1).trans (hkp.below (B := w.heap.size) (unhide HW1).size (fun b e => by omega)))
      have HD2 := hide ((unhide HD1).kept hkp (fun e => by omega))
      have HO2 := hide hO
      clear hO hkp HW1 HD1 HBx c0 c1 HPM g0 g1c HR1
      have fz := (unhide HD2).frozen k
      have ck := (unhide HD2).cell (ints_get _ (show k < (cdM L gap P P.length k).length by rw [unhide HCLN]; exact hkN))
      have HW3 := hide (Below.setCell (p := ⟨g2, k, none⟩) (unhide HW2) hgw (.int .i64 C))
      have HR3 := hide ((unhide HO2).other (a := ⟨g2, k, none⟩) (by show g1 ≠ g2; omega) (.int .i64 C))
      have HD3 : Hid (OwnV (w3.setCell ⟨g2, k, none⟩ (.int .i64 C)) g2 (ints (cdM L gap P P.length (k + 1)))) := by
        have := (unhide HD2).set k (.int .i64 C) (by rw [ints_length, unhide HCLN]; exact hkN)
        rw [ints_set, unhide HSET] at this
        exact this
      clear HW2 HO2 HD2 HSET HCLN
      go_wp2
      go_roundg (P.length - (k + 1))
      case measure => omega
      case rel => exact ⟨k + 1, by omega, rfl, by go_num, unhide HW3, unhide HR3, unhide HD3⟩
    · obtain rfl : k = P.length := by omega
      have hki : ¬ ((P.length : Nat) : Int) < P.length := by omega
      go_wp2
      refine bodyPost_ret (v := .tuple #[.slice (some ⟨g1, 0, none⟩) L.length L.length, .slice (some ⟨g2, 0, none⟩) P.length P.length]) (by simp [results, Try.results25, go_sem]) rfl ?_
      have hD := unhide HD
      rw [cdM_done] at hD
      have hR := unhide HR
      refine ⟨g2, _, _, _, _, _, _, rfl, hgw, Nat.le_of_lt (unhide HD).lt, ?_, ?_, unhide HW⟩
      · rw [unhide HN0]
        exact ⟨_, L.length, by rw [rmL_len], by rw [rmL_len]; exact Nat.le_refl _, by unfold maxLen; omega, fun _ => ⟨g1, rfl, hg1w, h12, hR⟩⟩
      · rw [unhide HN0]
        exact ⟨_, P.length, by rw [rmCs_len], by rw [rmCs_len]; exact Nat.le_refl _, by unfold maxLen; omega, fun _ => ⟨g2, rfl, Nat.le_refl _, (unhide HD).lt, hD⟩⟩

end Go.Proofs.Ytogoknldhimgfaa
