/- A plan of pushes in numbers; the program's Plan. -/
import Derived.Test.YtkfdcpnbpmipkaaHoA
import Derived.Test.YtkfdcpnbpmipkaaWalkJ
import Derived.Test.YtkfdcpnbpmipkaaRwI
import Derived.Test.YtkfdcpnbpmipkaaShpA
import Derived.Deep.DeepCutAuto
namespace Go.Proofs.Ytkfdcpnbpmipkaa
open Go.RowKit

def clp (l m : Int) : Int := if m < l then m else if l < -m then -m else l
/-- What is left behind k pushes. -/
def lf (m l : Int) : Nat → Int
  | 0 => l
  | k + 1 => lf m l k - clp (lf m l k) m
def plN (m l : Int) : Nat := (l.natAbs + m.natAbs - 1) / m.natAbs
def plK (m l : Int) (k : Nat) : List Int := (List.range k).map fun i => clp (lf m l i) m
def plIn (l m : Int) : Bool := inB l (-10000) 10000 && (l.tmod 2 == 0) && inB m 2 1000 && (m.tmod 2 == 0)
def plOk (l m : Int) : Bool := plIn l m && decide (plN m l ≤ 38)
def plL (l m : Int) : List Int := bif plOk l m then plK m l (plN m l) else []
theorem lf_abs {m l : Int} (hm : 2 ≤ m) : ∀ k, (lf m l k).natAbs = l.natAbs - k * m.natAbs
  | 0 => by simp [lf]
  | k + 1 => by
    have ih := lf_abs (l := l) hm k
    have e : (k + 1) * m.natAbs = k * m.natAbs + m.natAbs := Nat.succ_mul _ _
    unfold lf clp
    generalize lf m l k = x at ih ⊢
    generalize k * m.natAbs = y at ih e
    split
    · omega
    · split <;> omega
theorem lf_bd {m l : Int} (hm : 2 ≤ m) (hl : -10000 ≤ l ∧ l ≤ 10000) (k : Nat) : -10000 ≤ lf m l k ∧ lf m l k ≤ 10000 := by
  have := lf_abs (l := l) hm k
  omega
theorem lt_plN {m l : Int} (hm : 2 ≤ m) (k : Nat) : k < plN m l ↔ lf m l k ≠ 0 := by
  have h := lf_abs (l := l) hm k
  have e : (k + 1) * m.natAbs = k * m.natAbs + m.natAbs := Nat.succ_mul _ _
  unfold plN
  have h2 : k < (l.natAbs + m.natAbs - 1) / m.natAbs ↔ (k + 1) * m.natAbs ≤ l.natAbs + m.natAbs - 1 := Nat.le_div_iff_mul_le (by omega)
  rw [h2, e]
  generalize k * m.natAbs = y at h
  omega
theorem plN_bd {m l : Int} (hm : 2 ≤ m) (hl : -10000 ≤ l ∧ l ≤ 10000) : plN m l ≤ 20000 := by
  unfold plN
  have : (l.natAbs + m.natAbs - 1) / m.natAbs ≤ l.natAbs + 1 := by
    rw [Nat.div_le_iff_le_mul_add_pred (by omega)]
    have : l.natAbs ≤ l.natAbs * m.natAbs := Nat.le_mul_of_pos_right _ (by omega)
    have e : m.natAbs * (l.natAbs + 1) = l.natAbs * m.natAbs + m.natAbs := by rw [Nat.mul_add, Nat.mul_one, Nat.mul_comm]
    omega
  omega
theorem plK_len (m l : Int) (k : Nat) : (plK m l k).length = k := by simp [plK]
theorem plK_succ (m l : Int) (k : Nat) : plK m l (k + 1) = plK m l k ++ [clp (lf m l k) m] := by simp [plK, List.range_succ]
theorem plL_len (l m : Int) : (plL l m).length ≤ 38 := by
  unfold plL
  cases h : plOk l m with
  | false => simp
  | true =>
    rw [cond_true, plK_len]
    unfold plOk at h
    rw [Bool.and_eq_true, decide_eq_true_eq] at h
    omega
/-- A row of the call's own as its answer. -/
theorem row_ownSl {B B' : Nat} {w : World} {ao : Option Addr} {m cap : Nat} {L : List Int} (h : RowB 3 1 eI B w ao m cap L) (hB : B' ≤ B) : OwnSl B' w (.slice ao m cap) L := by
  have hl := h.len (by omega)
  subst hl
  rcases h.parts (by omega) with ⟨rfl, h1, rfl, rfl⟩ | ⟨g, rfl, h1, h2, h3, h4, h5⟩
  · exact ⟨none, 0, rfl, Nat.le_refl _, Nat.zero_le _, fun e => absurd rfl e⟩
  · exact ⟨_, cap, rfl, h3, h4, fun _ => ⟨g, rfl, by omega, by rw [recI] at h5; exact h5⟩⟩
theorem tm_wrap (x : Int) : -10000 ≤ x ∧ x ≤ 10000 → IntKind.i64.wrap (x.tmod 2) = x.tmod 2 := by
  intro hx
  rw [IntKind.wrap_i64]
  rcases Int.le_total 0 x with hp | hp
  · rw [Int.tmod_eq_emod_of_nonneg hp]; omega
  · have e : x = -(-x) := by omega
    rw [e, Int.neg_tmod, Int.tmod_eq_emod_of_nonneg (by omega)]
    omega

set_option maxRecDepth 100000 in
set_option maxHeartbeats 8000000 in
theorem implPlan_any (l m : Int) (w : World) :
    Calls Try.prog 9 #[.int .i64 l, .int .i64 m] w fun e w' => ∃ ao n cap, e = .returned (.tuple #[.slice ao n cap, .bool (plOk l m)]) ∧ OwnSl w.heap.size w' (.slice ao n cap) (plL l m) ∧ Below w.heap.size w w' := by
  have NIL : ∀ W, OwnSl w.heap.size W (.slice none 0 0) [] := fun W => ⟨none, 0, rfl, Nat.le_refl _, Nat.zero_le _, fun e => absurd rfl e⟩
  obtain ⟨V, eV⟩ : ∃ z, z = plOk l m := ⟨_, rfl⟩
  obtain ⟨M, eM⟩ : ∃ z, z = plL l m := ⟨_, rfl⟩
  have HBAD : Hid (plOk l m = false → V = false ∧ M = []) := by
    show _ → _
    intro hf
    refine ⟨eV.trans hf, ?_⟩
    rw [eM]; unfold plL; rw [hf]; rfl
  have HGOOD : Hid (plOk l m = true → V = true ∧ M = plK m l (plN m l)) := by
    show _ → _
    intro hf
    refine ⟨eV.trans hf, ?_⟩
    rw [eM]; unfold plL; rw [hf]; rfl
  have HI := hide fun x y z W => within_any x y z W
  rw [← eV, ← eM]
  clear eV eM
  cases h1 : inB l (-10000) 10000 with
  | false =>
    obtain ⟨rfl, rfl⟩ := unhide HBAD (by unfold plOk plIn; rw [h1]; rfl)
    go_enter Try.func9, Try.ntmps9
    go_wp2_with (go_at_call 22; refine (within_any _ _ _ _).mono ?_; rintro e w' ⟨rfl, h9⟩; have h8 := h9.symm; subst h8; clear h9)
    refine bodyPost_ret (v := .tuple #[.slice none 0 0, .bool false]) (by simp [results, Try.results9, go_sem]) rfl ⟨none, 0, 0, rfl, NIL _, Below.refl _ _⟩
  | true =>
  obtain ⟨l0, l1⟩ := inB_true h1
  have HE := hide (isEven_any l)
  have hll : -10000 ≤ l ∧ l ≤ 10000 := ⟨l0, l1⟩
  cases h2 : (l.tmod 2 == 0) with
  | false =>
    obtain ⟨rfl, rfl⟩ := unhide HBAD (by unfold plOk plIn; rw [h1, h2]; rfl)
    rw [h2] at HE
    go_enter Try.func9, Try.ntmps9
    go_wp2_with (first | (go_at_call 22; refine (within_any _ _ _ _).mono ?_; rintro e w' ⟨rfl, h9⟩; have h8 := h9.symm; subst h8; clear h9) | (go_at_call 23; refine (unhide HE _ hll).mono ?_; rintro e w' ⟨rfl, h9⟩; have h8 := h9.symm; subst h8; clear h9))
    refine bodyPost_ret (v := .tuple #[.slice none 0 0, .bool false]) (by simp [results, Try.results9, go_sem]) rfl ⟨none, 0, 0, rfl, NIL _, Below.refl _ _⟩
  | true =>
  rw [h2] at HE
  cases h3 : inB m 2 1000 with
  | false =>
    obtain ⟨rfl, rfl⟩ := unhide HBAD (by unfold plOk plIn; rw [h1, h2, h3]; rfl)
    go_enter Try.func9, Try.ntmps9
    go_wp2_with (first | (go_at_call 22; refine (within_any _ _ _ _).mono ?_; rintro e w' ⟨rfl, h9⟩; have h8 := h9.symm; subst h8; clear h9) | (go_at_call 23; refine (unhide HE _ hll).mono ?_; rintro e w' ⟨rfl, h9⟩; have h8 := h9.symm; subst h8; clear h9))
    refine bodyPost_ret (v := .tuple #[.slice none 0 0, .bool false]) (by simp [results, Try.results9, go_sem]) rfl ⟨none, 0, 0, rfl, NIL _, Below.refl _ _⟩
  | true =>
  obtain ⟨m0, m1⟩ := inB_true h3
  have HE2 := hide (isEven_any m)
  have hmm : -10000 ≤ m ∧ m ≤ 10000 := by omega
  cases h4 : (m.tmod 2 == 0) with
  | false =>
    obtain ⟨rfl, rfl⟩ := unhide HBAD (by unfold plOk plIn; rw [h1, h2, h3, h4]; rfl)
    rw [h4] at HE2
    go_enter Try.func9, Try.ntmps9
    go_wp2_with (first | (go_at_call 22; refine (within_any _ _ _ _).mono ?_; rintro e w' ⟨rfl, h9⟩; have h8 := h9.symm; subst h8; clear h9) | (go_at_call 23; first | (refine (unhide HE _ hll).mono ?_; rintro e w' ⟨rfl, h9⟩; have h8 := h9.symm; subst h8; clear h9 HE) | (refine (unhide HE2 _ hmm).mono ?_; rintro e w' ⟨rfl, h9⟩; have h8 := h9.symm; subst h8; clear h9)))
    refine bodyPost_ret (v := .tuple #[.slice none 0 0, .bool false]) (by simp [results, Try.results9, go_sem]) rfl ⟨none, 0, 0, rfl, NIL _, Below.refl _ _⟩
  | true =>
  rw [h4] at HE2
  have HIN : Hid (plIn l m = true) := by show _ = _; unfold plIn; rw [h1, h2, h3, h4]; rfl
  have HR := hide (rowB_nil 3 1 eI w.heap.size w)
  have HW := hide (Below.refl w.heap.size w)
  go_enter Try.func9, Try.ntmps9
  go_wp2_with (first | (go_at_call 22; refine (within_any _ _ _ _).mono ?_; rintro e w' ⟨rfl, h9⟩; have h8 := h9.symm; subst h8; clear h9) | (go_at_call 23; first | (refine (unhide HE _ hll).mono ?_; rintro e w' ⟨rfl, h9⟩; have h8 := h9.symm; subst h8; clear h9 HE) | (refine (unhide HE2 _ hmm).mono ?_; rintro e w' ⟨rfl, h9⟩; have h8 := h9.symm; subst h8; clear h9)))
  clear h1 h2 h3 h4 HE2 HI
  have hNb := plN_bd m0 hll
  go_loopg [6, 7] (plN m l) (fun gh pv lv wr => ∃ (k : Nat) (ao : Option Addr) (cap : Nat), k ≤ plN m l ∧ k ≤ 38 ∧ gh = plN m l - k ∧ pv = .slice ao k cap ∧ lv = .int .i64 (lf m l k) ∧ Hid (RowB 3 1 eI w.heap.size wr ao k cap (plK m l k)) ∧ Hid (Below w.heap.size w wr))
  case atStart => exact ⟨0, none, 0, Nat.zero_le _, Nat.zero_le _, rfl, rfl, rfl, HR, HW⟩
  case round =>
    clear HR HW
    obtain ⟨k, ao, cap, hk, hk38, rfl, rfl, rfl, HR, HW⟩ := hrel
    have hlt := lt_plN (l := l) m0 k
    have hbd := lf_bd m0 hll k
    have HKS := hide (plK_succ m l k)
    have HLS : Hid (lf m l (k + 1) = lf m l k - clp (lf m l k) m) := rfl
    obtain ⟨x, ex⟩ : ∃ z, z = lf m l k := ⟨_, rfl⟩
    rw [← ex] at hlt hbd HKS HLS ⊢
    obtain ⟨N, eN⟩ : ∃ z, z = plN m l := ⟨_, rfl⟩
    have HNN := hide eN
    rw [← eN] at hlt hk hNb HGOOD
    clear ex eN
    by_cases hx : x = 0
    · have hkN : k = N := by
        have : ¬ k < N := fun h => hlt.1 h hx
        omega
      subst hkN
      obtain ⟨rfl, rfl⟩ := unhide HGOOD (by unfold plOk; rw [unhide HIN, ← unhide HNN, decide_eq_true hk38]; rfl)
      have hx0 : (x != 0) = false := by simp [hx]
      clear hlt
      go_wp2
      refine bodyPost_ret (v := .tuple #[.slice ao k cap, .bool true]) (by simp [results, Try.results9, go_sem]) rfl ⟨ao, k, cap, rfl, row_ownSl (unhide HR) (Nat.le_refl _), unhide HW⟩
    · have hx0 : (x != 0) = true := by simp [hx]
      have hkN := hlt.2 hx
      clear hlt
      by_cases hk8 : k = 38
      · obtain ⟨rfl, rfl⟩ := unhide HBAD (by unfold plOk; rw [← unhide HNN, decide_eq_false (show ¬ N ≤ 38 by omega), Bool.and_false])
        have hk9 : ((k : Int) == 38) = true := by simp; omega
        go_wp2
        refine bodyPost_ret (v := .tuple #[.slice none 0 0, .bool false]) (by simp [results, Try.results9, go_sem]) rfl ⟨none, 0, 0, rfl, NIL _, unhide HW⟩
      have hk9 : ((k : Int) == 38) = false := by simp; omega
      obtain ⟨c, ec⟩ : ∃ z, z = clp x m := ⟨_, rfl⟩
      rw [← ec] at HKS HLS
      have A1 := Below.alloc1 wr (.cells #[.int .i64 c] 3)
      have HG := hide (ownV_alloc wr #[.int .i64 c] 3)
      have HR2 := hide ((unhide HR).below A1)
      have HW2 := hide (Below.step (unhide HW) A1)
      have hBs := (unhide HW2).size
      have hcb : -1000 ≤ c ∧ c ≤ 1000 := by rw [ec]; unfold clp; split; omega; split <;> omega
      have HC := hide ec
      clear ec A1
      have FIN : Hid (∀ (W : World) (g' cap' : Nat), RowB 3 1 eI w.heap.size W (some ⟨g', 0, none⟩) (k + 1) cap' (plK m l k ++ [c]) → RowB 3 1 eI w.heap.size W (some ⟨g', 0, none⟩) (k + 1) cap' (plK m l (k + 1))) := fun W g' cap' h => by rw [unhide HKS]; exact h
      by_cases d1 : m < x
      · have hcm : c = m := by have := unhide HC; unfold clp at this; rw [if_pos d1] at this; exact this
        clear HC
        subst c
        have d2 : -m < m := by omega
        go_wp2_with (at_builtin; go_must (refine wpList_appRow tyI _ rfl (.tmp 39) (.tmp 41) rfl w.heap.size ao k cap (plK m l k) rfl (unhide HR2) hBs (by omega) wr.heap.size m 1 rfl (unhide HG) ?_); intro g' cap' w' hL hKp hBg hat; have HL2 := hide hL; have HKP := hide hKp; clear hL hKp hat hBg)
        have HW9 := hide ((unhide HW2).trans ((unhide HKP).below hBs (fun b e => by
          rcases (unhide HR2).parts (by omega) with ⟨e2, _⟩ | ⟨g9, e2, hB9, _⟩
          · rw [e2] at e; cases e
          · rw [e2] at e; simp only [Option.some.injEq, Addr.mk.injEq, and_true] at e; omega)))
        have hkP : k < plN m l := by rw [← unhide HNN]; exact hkN
        go_roundg (plN m l - (k + 1))
        case measure => omega
        case rel => exact ⟨k + 1, some ⟨g', 0, none⟩, cap', by omega, by omega, rfl, rfl, by rw [unhide HLS]; first | done | (congr 1; omega), hide (unhide FIN _ _ _ (unhide HL2)), HW9⟩
      · by_cases d2 : -m < x
        · have hcm : c = x := by have := unhide HC; unfold clp at this; rw [if_neg d1, if_neg (by omega)] at this; exact this
          clear HC
          subst c
          go_wp2_with (at_builtin; go_must (refine wpList_appRow tyI _ rfl (.tmp 39) (.tmp 41) rfl w.heap.size ao k cap (plK m l k) rfl (unhide HR2) hBs (by omega) wr.heap.size x 1 rfl (unhide HG) ?_); intro g' cap' w' hL hKp hBg hat; have HL2 := hide hL; have HKP := hide hKp; clear hL hKp hat hBg)
          have HW9 := hide ((unhide HW2).trans ((unhide HKP).below hBs (fun b e => by
            rcases (unhide HR2).parts (by omega) with ⟨e2, _⟩ | ⟨g9, e2, hB9, _⟩
            · rw [e2] at e; cases e
            · rw [e2] at e; simp only [Option.some.injEq, Addr.mk.injEq, and_true] at e; omega)))
          have hkP : k < plN m l := by rw [← unhide HNN]; exact hkN
          go_roundg (plN m l - (k + 1))
          case measure => omega
          case rel => exact ⟨k + 1, some ⟨g', 0, none⟩, cap', by omega, by omega, rfl, rfl, by rw [unhide HLS]; first | done | (congr 1; omega), hide (unhide FIN _ _ _ (unhide HL2)), HW9⟩
        · have hcm : c = -m := by
            have := unhide HC
            unfold clp at this
            rw [if_neg d1] at this
            split at this
            · exact this
            · omega
          clear HC
          subst c
          go_wp2_with (at_builtin; go_must (refine wpList_appRow tyI _ rfl (.tmp 39) (.tmp 41) rfl w.heap.size ao k cap (plK m l k) rfl (unhide HR2) hBs (by omega) wr.heap.size (-m) 1 rfl (unhide HG) ?_); intro g' cap' w' hL hKp hBg hat; have HL2 := hide hL; have HKP := hide hKp; clear hL hKp hat hBg)
          have HW9 := hide ((unhide HW2).trans ((unhide HKP).below hBs (fun b e => by
            rcases (unhide HR2).parts (by omega) with ⟨e2, _⟩ | ⟨g9, e2, hB9, _⟩
            · rw [e2] at e; cases e
            · rw [e2] at e; simp only [Option.some.injEq, Addr.mk.injEq, and_true] at e; omega)))
          have hkP : k < plN m l := by rw [← unhide HNN]; exact hkN
          go_roundg (plN m l - (k + 1))
          case measure => omega
          case rel => exact ⟨k + 1, some ⟨g', 0, none⟩, cap', by omega, by omega, rfl, rfl, by rw [unhide HLS]; first | done | (congr 1; omega), hide (unhide FIN _ _ _ (unhide HL2)), HW9⟩
end Go.Proofs.Ytkfdcpnbpmipkaa
