/- The program's CargoRun. -/
import Derived.Test.YtfokocpdngokfaaCgP
import Derived.Test.YtfokocpdngokfaaCgK
namespace Go.Proofs.Ytfokocpdngokfaa
open Go.RowKit

theorem codes_setC (xs : List Int) (n : Nat) (h : xs.length < n) (c : Int) : (xs ++ List.replicate (n - xs.length) 0).set xs.length c = (xs ++ [c]) ++ List.replicate (n - (xs.length + 1)) 0 := by
  obtain ⟨d, hd⟩ : ∃ d, n - xs.length = d + 1 := ⟨n - xs.length - 1, by omega⟩
  have hd' : n - (xs.length + 1) = d := by omega
  rw [hd, hd', List.replicate_succ, List.set_append]
  simp
theorem ints_madeC (n : Nat) : (madeCells #[Value.int .i64 0] n).toList = ints (List.replicate n 0) := by
  apply List.ext_getElem?
  intro i
  by_cases h : i < n
  · simp [madeCells, ints, h, Nat.mod_one]
  · simp [madeCells, ints, h]
/-- The codes told so far. -/
def cdR (L : List CargoTankT) (P : List CargoOpT) (lean : Int) (n k : Nat) : List Int := rCs L P lean k ++ List.replicate (n - k) 0
theorem cdR_len {L : List CargoTankT} {P : List CargoOpT} {lean : Int} {n k : Nat} (h : k ≤ n) : (cdR L P lean n k).length = n := by simp [cdR, rCs_len]; omega
theorem cdR_set {L : List CargoTankT} {P : List CargoOpT} {lean : Int} {n k : Nat} (h : k < n) : (cdR L P lean n k).set k (rC1 L P lean k) = cdR L P lean n (k + 1) := by
  have := codes_setC (rCs L P lean k) n (by rw [rCs_len]; exact h) (rC1 L P lean k)
  rw [rCs_len] at this
  rw [cdR, this, cdR, rCs_next]
theorem cdR_done (L : List CargoTankT) (P : List CargoOpT) (lean : Int) (n : Nat) : cdR L P lean n n = rCs L P lean n := by simp [cdR]
theorem OwnR.keptR {T : Nat → Prop} {B : Nat} {w w' : World} {v : Value} {L : List CargoTankT} (h : OwnR 5 eCargoTank B w v L) (hk : Kept T w w') (hT : ∀ b, B ≤ b → ¬ T b) : OwnR 5 eCargoTank B w' v L := by
  obtain ⟨ao, cap, rfl, h1, h2, h3⟩ := h
  refine ⟨ao, cap, rfl, h1, h2, fun hne => ?_⟩
  obtain ⟨g, rfl, hg, ho⟩ := h3 hne
  exact ⟨g, rfl, hg, ho.kept hk (hT g hg)⟩
def RunAns (L : List CargoTankT) (P : List CargoOpT) (lean : Int) (w : World) (e : Ending) (w' : World) : Prop :=
  ∃ X a n cp a2 n2 cp2, e = .returned (.tuple #[.slice a n cp, .slice a2 n2 cp2]) ∧ w.heap.size ≤ X ∧ X ≤ w'.heap.size ∧ OwnRU 5 eCargoTank X w'.heap.size w' (.slice a n cp) (rT L P lean (rN P)) ∧ OwnIntsU w.heap.size X w' (.slice a2 n2 cp2) (rCs L P lean (rN P)) ∧ Below w.heap.size w w'

set_option maxRecDepth 100000 in
set_option maxHeartbeats 8000000 in
theorem implCargoRun_any (v pv : Value) (L : List CargoTankT) (P : List CargoOpT) (lean : Int) (w : World) (h : RCargoTank w v L) (hp : RCargoOp w pv P) (hn : L.length ≤ 1048576) :
    Calls Try.prog 14 #[v, pv, .int .i64 lean] w (RunAns L P lean w) := by
  have HV := hide h
  obtain ⟨ao, cap, rfl, hl, hm, hc⟩ := h
  obtain ⟨po, pcap, rfl, hpl, hpm, hpc⟩ := hp
  unfold maxLen at hm hpm
  have HPC := hide hpc
  clear hc hpc
  have HC := hide (ownCopyTank_any ao L.length cap L w (unhide HV) hn)
  go_enter Try.func14, Try.ntmps14
  go_wp2_with fail
  refine (unhide HC).mono ?_
  rintro e w1 ⟨rfl, ho, hb⟩
  have HR0 := hide (ownR_copy (B := w.heap.size) ho (Nat.le_refl _) hn)
  have HW0 := hide hb
  clear ho hb HC
  by_cases hbig : 100 < (P.length : Int)
  · have HN0 : Hid (rN P = 0) := if_neg (by omega)
    go_wp2
    refine bodyPost_ret (v := .tuple #[.slice (some ⟨w.heap.size, 0, none⟩) L.length L.length, .slice none 0 0]) (by simp [results, Try.results14, go_sem]) rfl ?_
    refine ⟨w.heap.size, _, _, _, _, _, _, rfl, Nat.le_refl _, (unhide HW0).size, ?_, ?_, unhide HW0⟩
    · rw [unhide HN0]
      exact (unhide HR0).upto
    · rw [unhide HN0]
      exact ⟨none, 0, rfl, Nat.le_refl _, Nat.zero_le _, fun h => absurd rfl h⟩
  have HN0 : Hid (rN P = P.length) := if_pos (by omega)
  have hmk := run_make_row' (P := Try.prog) 35 3 (.int .i64 0) 8 Try.underlying35 Try.info3 rfl .i64 .i64 P.length (by omega) (by omega)
  have HD0 : Hid (OwnV (w1.alloc (.cells (madeCells #[.int .i64 0] P.length) 3)) w1.heap.size (ints (cdR L P lean P.length 0))) := by
    have := ownV_alloc w1 (madeCells #[.int .i64 0] P.length) 3
    rw [ints_madeC] at this
    exact this
  have HW1 := hide (Below.step (unhide HW0) (Below.alloc1 w1 (.cells (madeCells #[.int .i64 0] P.length) 3)))
  have HR1 := hide ((unhide HR0).below (Below.alloc1 w1 (.cells (madeCells #[.int .i64 0] P.length) 3)))
  have hw01 := (unhide HW0).size
  go_wp2
  clear hmk HW0 HR0
  obtain ⟨g2, eg2⟩ : ∃ g2, g2 = w1.heap.size := ⟨_, rfl⟩
  rw [← eg2] at HD0 ⊢
  have hgw : w.heap.size ≤ g2 := by omega
  clear eg2 hw01
  go_loopg [8, 23] P.length (fun gg ov iv wr => ∃ k : Nat, k ≤ P.length ∧ gg = P.length - k ∧ iv = .int .i64 k ∧ Hid (Below w.heap.size w wr) ∧ (∃ a n cp, ov = .slice a n cp) ∧ Hid (OwnR 5 eCargoTank (if k = 0 then w.heap.size else g2 + 1) wr ov (rT L P lean k)) ∧ Hid (OwnV wr g2 (ints (cdR L P lean P.length k))))
  case atStart => exact ⟨0, Nat.zero_le _, rfl, rfl, unhide HW1, ⟨_, _, _, rfl⟩, unhide HR1, unhide HD0⟩
  case round =>
    clear HW1 HR1 HD0
    obtain ⟨k, hk, rfl, rfl, HW, ⟨a, n, cp, rfl⟩, HR, HD⟩ := hrel
    by_cases hkN : k < P.length
    · obtain ⟨b, o, x0, x1, x2, x3, rfl, hx0, hx1, hx2, hx3, EX⟩ := recCargoOpAt (unhide HPC) hkN
      have g0 := wcell3 hx0 (unhide HW)
      have g1 := wcell3 hx1 (unhide HW)
      have g2c := wcell3 hx2 (unhide HW)
      have g3 := wcell3 hx3 (unhide HW)
      have hki : (k : Int) < P.length := by omega
      have hlen := rT_len L P lean k
      have HPM := hide fun V (hV : Below wr.heap.size wr V) => implCargoStep_any _ (rT L P lean k) x0 x1 x2 x3 lean V ((unhide HR).intsIn.below hV) (by rw [hlen]; exact hn)
      have ET : Hid (rT L P lean (k + 1) = cgL (rT L P lean k) x0 x1 x2 x3 lean) := by show _ = _; rw [rT, unhide EX]
      have EC : Hid (rC1 L P lean k = cgC (rT L P lean k) x0 x1 x2 x3 lean) := by show _ = _; rw [rC1, unhide EX]
      have HSET := hide (cdR_set (L := L) (P := P) (lean := lean) hkN)
      have HCLN := hide (cdR_len (L := L) (P := P) (lean := lean) (n := P.length) (k := k) hk)
      rw [← unhide ET, ← unhide EC] at HPM
      have HBx := hide (ownV_alloc wr #[.int .i64 x0, .int .i64 x1, .int .i64 x2, .int .i64 x3] 31)
      have HA := Below.alloc1 wr (.cells #[.int .i64 x0, .int .i64 x1, .int .i64 x2, .int .i64 x3] 31)
      have hg2w := (unhide HD).lt
      have HW1 := hide (Below.step (unhide HW) HA)
      have HD1 := hide ((unhide HD).step HA)
      have HA1 := hide HA
      have hsz := HA.size
      clear hx0 hx1 hx2 hx3 EX ET EC hlen HA HW HR HD
      generalize rC1 L P lean k = C at *
      unfold vCargoOp at HPM
      have c0 := (unhide HBx).cell (i := 0) rfl
      have c1 := (unhide HBx).cell (i := 1) rfl
      have c2 := (unhide HBx).cell (i := 2) rfl
      have c3 := (unhide HBx).cell (i := 3) rfl
      go_wp2_with fail
      refine (unhide HPM _ (unhide HA1)).mono ?_
      rintro e w3 ⟨a', n', cp', rfl, hO, hb⟩
      have HW2 := hide (Below.step (unhide HW1) hb)
      have HD2 := hide ((unhide HD1).step hb)
      have HO2 := hide (hO.mono (B' := g2 + 1) (by omega))
      clear hO hb HW1 HD1 HBx c0 c1 c2 c3 HPM g0 g1 g2c g3 HA1
      have fz := (unhide HD2).frozen k
      have ck := (unhide HD2).cell (ints_get _ (show k < (cdR L P lean P.length k).length by rw [unhide HCLN]; exact hkN))
      have HW3 := hide (Below.setCell (p := ⟨g2, k, none⟩) (unhide HW2) hgw (.int .i64 C))
      have HR3 : Hid (OwnR 5 eCargoTank (if k + 1 = 0 then w.heap.size else g2 + 1) (w3.setCell ⟨g2, k, none⟩ (.int .i64 C)) (.slice a' n' cp') (rT L P lean (k + 1))) := by
        show OwnR _ _ _ _ _ _
        rw [if_neg (by omega)]
        exact (unhide HO2).keptR (T := fun b => b = g2) ((Kept.refl (fun b => b = g2) w3).setCell (p := ⟨g2, k, none⟩) rfl _) (fun b h1 h2 => by omega)
      have HD3 : Hid (OwnV (w3.setCell ⟨g2, k, none⟩ (.int .i64 C)) g2 (ints (cdR L P lean P.length (k + 1)))) := by
        have := (unhide HD2).set k (.int .i64 C) (by rw [ints_length, unhide HCLN]; exact hkN)
        rw [ints_set, unhide HSET] at this
        exact this
      clear HW2 HO2 HD2 HSET HCLN
      go_wp2
      go_roundg (P.length - (k + 1))
      case measure => omega
      case rel => exact ⟨k + 1, by omega, rfl, by go_num, unhide HW3, ⟨_, _, _, rfl⟩, unhide HR3, unhide HD3⟩
    · obtain rfl : k = P.length := by omega
      have hki : ¬ ((P.length : Nat) : Int) < P.length := by omega
      go_wp2
      refine bodyPost_ret (v := .tuple #[.slice a n cp, .slice (some ⟨g2, 0, none⟩) P.length P.length]) (by simp [results, Try.results14, go_sem]) rfl ?_
      have hD := unhide HD
      rw [cdR_done] at hD
      have hR := unhide HR
      by_cases h0 : P.length = 0
      · rw [if_pos h0] at hR
        refine ⟨w.heap.size, _, _, _, _, _, _, rfl, Nat.le_refl _, (unhide HW).size, ?_, ?_, unhide HW⟩
        · rw [unhide HN0]
          exact hR.upto
        · rw [unhide HN0]
          exact ⟨_, P.length, by rw [rCs_len], by rw [rCs_len]; exact Nat.le_refl _, by unfold maxLen; omega, fun h => absurd (List.length_eq_zero_iff.1 (by rw [rCs_len]; exact h0)) h⟩
      · rw [if_neg h0] at hR
        refine ⟨g2 + 1, _, _, _, _, _, _, rfl, by omega, (unhide HD).lt, ?_, ?_, unhide HW⟩
        · rw [unhide HN0]
          exact hR.upto
        · rw [unhide HN0]
          exact ⟨_, P.length, by rw [rCs_len], by rw [rCs_len]; exact Nat.le_refl _, by unfold maxLen; omega, fun _ => ⟨g2, rfl, hgw, by omega, hD⟩⟩

end Go.Proofs.Ytfokocpdngokfaa
