/- CargoRun in numbers; the specification's CargoRun. -/
import Derived.Test.YtfokocpdngokfaaCgO
import Derived.Test.YtfokocpdngokfaaOwnInts
import Derived.Test.YtfokocpdngokfaaSgA
import Derived.Deep.AppendLies
namespace Go.Proofs.Ytfokocpdngokfaa
open Go.RowKit

def rT (L : List CargoTankT) (P : List CargoOpT) (lean : Int) : Nat → List CargoTankT
  | 0 => L
  | k + 1 => cgL (rT L P lean k) (P.getD k default).1 (P.getD k default).2.1 (P.getD k default).2.2.1 (P.getD k default).2.2.2 lean
def rC1 (L : List CargoTankT) (P : List CargoOpT) (lean : Int) (k : Nat) : Int := cgC (rT L P lean k) (P.getD k default).1 (P.getD k default).2.1 (P.getD k default).2.2.1 (P.getD k default).2.2.2 lean
def rCs (L : List CargoTankT) (P : List CargoOpT) (lean : Int) (k : Nat) : List Int := (List.range k).map (rC1 L P lean)
theorem rT_len (L : List CargoTankT) (P : List CargoOpT) (lean : Int) : ∀ k, (rT L P lean k).length = L.length := by
  intro k
  induction k with
  | zero => rfl
  | succ k ih => rw [rT, cgL_len, ih]
theorem rCs_len (L : List CargoTankT) (P : List CargoOpT) (lean : Int) (k : Nat) : (rCs L P lean k).length = k := by simp [rCs]
theorem rCs_next (L : List CargoTankT) (P : List CargoOpT) (lean : Int) (k : Nat) : rCs L P lean (k + 1) = rCs L P lean k ++ [rC1 L P lean k] := by simp [rCs, List.range_succ]
def rN (P : List CargoOpT) : Nat := if P.length ≤ 100 then P.length else 0
theorem rN_le (P : List CargoOpT) : rN P ≤ 100 := by unfold rN; split <;> omega
theorem OwnR.grown {B : Nat} {w w' : World} {v : Value} {L : List CargoTankT} {row : Option Nat} (h : OwnR 5 eCargoTank B w v L) (hg : w.grownBy w' row) (hr : ∀ k, row = some k → k < B) : OwnR 5 eCargoTank B w' v L := by
  obtain ⟨ao, cap, rfl, h1, h2, h3⟩ := h
  refine ⟨ao, cap, rfl, h1, h2, fun hne => ?_⟩
  obtain ⟨g, rfl, hgB, ho⟩ := h3 hne
  exact ⟨g, rfl, hgB, ho.of_block (hg.block g ho.lt (fun e => by have := hr g e.symm; omega))⟩
theorem ints_snocC (xs : List Int) (x : Int) : ints (xs ++ [x]) = ints xs ++ [.int .i64 x] := by simp [ints]
def RunAnsS (L : List CargoTankT) (P : List CargoOpT) (lean : Int) (w : World) (e : Ending) (w' : World) : Prop :=
  ∃ a n cp a2 n2 cp2, e = .returned (.tuple #[.slice a n cp, .slice a2 n2 cp2]) ∧ OwnR 5 eCargoTank w.heap.size w' (.slice a n cp) (rT L P lean (rN P)) ∧ OwnSl w.heap.size w' (.slice a2 n2 cp2) (rCs L P lean (rN P)) ∧ Below w.heap.size w w'

set_option maxRecDepth 100000 in
set_option maxHeartbeats 8000000 in
theorem specCargoRun_any (v pv : Value) (L : List CargoTankT) (P : List CargoOpT) (lean : Int) (w : World) (h : RCargoTank w v L) (hp : RCargoOp w pv P) (hn : L.length ≤ 1048576) :
    Calls Try.prog 27 #[v, pv, .int .i64 lean] w (RunAnsS L P lean w) := by
  have HV := hide h
  obtain ⟨ao, cap, rfl, hl, hm, hc⟩ := h
  obtain ⟨po, pcap, rfl, hpl, hpm, hpc⟩ := hp
  unfold maxLen at hm hpm
  have HPC := hide hpc
  clear hc hpc
  obtain ⟨i0, hinf, hz0, hz1, hz2⟩ := info_parts Try.info3
  have HN := hide (rowB_new 33 5 eCargoTank w w.heap.size (Nat.le_refl _))
  have HW0 := hide (Below.alloc1 w (.cells #[] 33))
  have hws0 := (unhide HW0).size
  have HRL0 := hide ((unhide HV).below (unhide HW0))
  go_enter Try.func27, Try.ntmps27
  go_upto_region 2 with (at_builtin; go_must (refine wpList_appAll tyTank _ rfl _ _ rfl w.heap.size (some ⟨w.heap.size, 0, none⟩) 0 0 [] rfl (unhide HN) hws0 (by omega) ao L.length cap L rfl (unhide HRL0) hn ?_); intro sa sc wa hL hK; have HSM : Hid (RowB 33 5 eCargoTank w.heap.size wa sa (0 + L.length) sc L) := hL; have HW := hide (onRow_belowC (unhide HW0) (unhide HN) (Nat.le_refl _) hws0 hK); clear hL hK)
  clear HN HW0 HRL0 hws0
  have HR0 := hide (World.ownsRow_made (base := w.heap.size) (e := 3) (size := 1) wa #[] 0 (unhide HW).size (Nat.zero_le _) (by simp))
  have HW1 := hide (Below.step (unhide HW) (Below.alloc1 wa (.cells #[] 3)))
  have HO1 := hide (((unhide HSM).own (by decide)).below (Below.alloc1 wa (.cells #[] 3)))
  rw [Nat.zero_add] at HO1
  clear HW HSM
  have HNP : Hid (rN P = if P.length ≤ 100 then P.length else 0) := rfl
  have hN60 := rN_le P
  have hNP : rN P ≤ P.length := by unfold rN; split <;> omega
  obtain ⟨N, hNN⟩ : ∃ N, rN P = N := ⟨_, rfl⟩
  rw [hNN] at HNP hN60 hNP
  have HNE := hide hNN
  clear hNN
  go_wp2
  go_loopg [8, 9, 10] N (fun gg ov cv iv wr => ∃ k : Nat, k ≤ N ∧ gg = N - k ∧ iv = .int .i64 k ∧ Hid (Below w.heap.size w wr) ∧ (∃ a n cp, ov = .slice a n cp) ∧ (∃ a n cp, cv = .slice a n cp) ∧ Hid (OwnR 5 eCargoTank w.heap.size wr ov (rT L P lean k)) ∧ Hid (wr.ownsRow w.heap.size 3 1 cv k (ints (rCs L P lean k))))
  case atStart => exact ⟨0, Nat.zero_le _, rfl, rfl, unhide HW1, ⟨_, _, _, rfl⟩, ⟨_, _, _, rfl⟩, unhide HO1, unhide HR0⟩
  case round =>
    clear HW1 HO1 HR0
    obtain ⟨k, hk, rfl, rfl, HW, ⟨a, n, cp, rfl⟩, ⟨a2, n2, cp2, rfl⟩, HO, HR⟩ := hrel
    have hsz := (unhide HW).size
    by_cases hkN : k < N
    · have h60 : P.length ≤ 100 := by
        have := unhide HNP
        by_cases e : P.length ≤ 100
        · exact e
        · rw [if_neg e] at this; omega
      obtain ⟨b, o, x0, x1, x2, x3, rfl, hx0, hx1, hx2, hx3, EX⟩ := recCargoOpAt (unhide HPC) (show k < P.length by omega)
      have g0 := wcell3 hx0 (unhide HW)
      have g1 := wcell3 hx1 (unhide HW)
      have g2 := wcell3 hx2 (unhide HW)
      have g3 := wcell3 hx3 (unhide HW)
      have hki : (k : Int) < P.length := by omega
      have h60i : (P.length : Int) ≤ 100 := by omega
      have HPM := hide fun V (hV : Below wr.heap.size wr V) => specCargoStep_any _ (rT L P lean k) x0 x1 x2 x3 lean V ((unhide HO).intsIn.below hV) (by rw [rT_len]; exact hn)
      have ET : Hid (rT L P lean (k + 1) = cgL (rT L P lean k) x0 x1 x2 x3 lean) := by show _ = _; rw [rT, unhide EX]
      have EC : Hid (rC1 L P lean k = cgC (rT L P lean k) x0 x1 x2 x3 lean) := by show _ = _; rw [rC1, unhide EX]
      have ES : Hid (ints (rCs L P lean (k + 1)) = ints (rCs L P lean k) ++ [.int .i64 (rC1 L P lean k)]) := by show _ = _; rw [rCs_next, ints_snocC]
      unfold StepAns at HPM
      rw [← unhide ET, ← unhide EC] at HPM
      clear hx0 hx1 hx2 hx3 EX ET EC
      generalize rC1 L P lean k = C at *
      unfold vCargoOp at HPM
      go_wp2_with fail
      refine (unhide HPM _ (Below.refl _ _)).mono ?_
      rintro e w2 ⟨a', n', cp', rfl, hO, hb⟩
      have hsz2 := hb.size
      have HW2 := hide (Below.step (unhide HW) hb)
      have HR1 := hide (ownsRow_below (unhide HR) hb)
      have HLT := hide (unhide HR).lt
      have HO2 := hide (hO.below (Below.alloc1 w2 (.cells #[.int .i64 C] 3)))
      have HR2 := hide (ownsRow_below (unhide HR1) (Below.alloc1 w2 (.cells #[.int .i64 C] 3)))
      clear hO hb g0 g1 g2 g3 HPM
      go_wp2_with (at_builtin; refine wpList_append_lies _ rfl _ _ 35 rfl w.heap.size 3 i0 _ 1 8 Try.underlying35 hinf hz0 hz1 hz2 rfl (by decide) _ k _ rfl (unhide HR2) ⟨w2.heap.size, 0, none⟩ 1 1 [.int .i64 C] rfl rfl (cell_one_new _ _ _) (by simp [Value.oneCell']) (by omega) (by unfold maxLen; omega) (by omega) (by simp; omega) _ rfl ?_; intro g4 cap4 wa4 hown hgrow hat hlt4; have HWa := hide ((Below.step (unhide HW2) (Below.alloc1 w2 (.cells #[.int .i64 C] 3))).grown hgrow (by simp; omega) (fun g hg => ((unhide HLT) g hg).1)); have HOa := hide (((unhide HO2).grown hgrow (fun g hg => ((unhide HLT) g hg).2)).mono hsz); have HOW := hide hown; clear hown hgrow hat)
      rw [← unhide ES] at HOW
      go_roundg (N - (k + 1))
      case measure => omega
      case rel => exact ⟨k + 1, by omega, rfl, by go_num, unhide HWa, ⟨_, _, _, rfl⟩, ⟨_, _, _, rfl⟩, unhide HOa, unhide HOW⟩
    · have hkk : k = N := by omega
      subst hkk
      have HS := hide (ownsRow_ownSl (unhide HR)).1
      have HND : Hid ((k : Int) < P.length → (P.length : Int) ≤ 100 → False) := fun h1 h2 => by
        have := unhide HNP
        rw [if_pos (by omega)] at this
        omega
      by_cases h1 : (k : Int) < P.length
      · have h2 : ¬ (P.length : Int) ≤ 100 := fun h => unhide HND h1 h
        go_wp2
        refine bodyPost_ret (v := .tuple #[.slice a n cp, .slice a2 n2 cp2]) (by simp [results, Try.results27, go_sem]) rfl ⟨_, _, _, _, _, _, rfl, by rw [unhide HNE]; exact unhide HO, by rw [unhide HNE]; exact unhide HS, unhide HW⟩
      · go_wp2
        refine bodyPost_ret (v := .tuple #[.slice a n cp, .slice a2 n2 cp2]) (by simp [results, Try.results27, go_sem]) rfl ⟨_, _, _, _, _, _, rfl, by rw [unhide HNE]; exact unhide HO, by rw [unhide HNE]; exact unhide HS, unhide HW⟩

end Go.Proofs.Ytfokocpdngokfaa
