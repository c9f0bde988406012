/- Lists of bools of the call's own; contracts of the laws' own eqBoolS, markBoolS, heldBoolS for the laws. -/
import Derived.Test.YtgmhijbepkobkaaOwC
import Derived.Test.YtgmhijbepkobkaaWalkC
import Derived.Deep.QuietTactic
import Derived.BigQuiet
namespace Go.Proofs.Ytgmhijbepkobkaa
open Go.RowKit

abbrev BoIn := CIn (α := Bool) Value.bool
abbrev OwnBo := OwnC (α := Bool) Value.bool
abbrev OwnBoU := OwnCU (α := Bool) Value.bool

set_option maxHeartbeats 400000 in
theorem eqBoolS_o (v v' : Value) (M : List Bool) (w : World) (h : BoIn w v M) (h' : BoIn w v' M) :
    Calls Try.prog 42 #[v, v'] w fun e w' => e = .returned (.bool true) ∧ Below w.heap.size w w' := by
  obtain ⟨ao, cap, rfl, hl, hm, hc⟩ := h
  obtain ⟨ao', cap', rfl, _, _, hc'⟩ := h'
  unfold maxLen at hm
  have HC := hide hc
  have HC' := hide hc'
  clear hc hc'
  go_enter Try.func42, Try.ntmps42
  go_wp2
  go_loopg [5] M.length (fun g i wr => ∃ q, wr = w.drewN q ∧ ∃ k : Nat, k ≤ M.length ∧ g = M.length - k ∧ i = .int .i64 k)
  case atStart => exact ⟨0, rfl, 0, Nat.zero_le _, rfl, rfl⟩
  case round =>
    obtain ⟨q, hq, k, hk, rfl, rfl⟩ := hrel
    by_cases hkn : k < M.length
    · obtain ⟨b, o, rfl, hcell⟩ := unhide HC k hkn
      obtain ⟨b', o', rfl, hcell'⟩ := unhide HC' k hkn
      generalize M.getD k default = x at *
      have c0 : wr.cell? ⟨b, o + k, none⟩ = some (.bool x) := by rw [hq]; exact hcell
      have c1 : wr.cell? ⟨b', o' + k, none⟩ = some (.bool x) := by rw [hq]; exact hcell'
      have HQ := hide hq
      have hki : (k : Int) < M.length := by omega
      clear hq hcell hcell'
      cases x
      all_goals
        go_wp2
        first | done | (go_quiet (fail); go_wp2) | skip
        go_roundg (M.length - (k + 1))
        case measure => omega
        case rel => exact ⟨_, by rw [unhide HQ]; exact World.drewN_drewN _ _ _, k + 1, by omega, rfl, by go_num⟩
    · subst hq
      go_wp2
      go_ret
      exact ⟨rfl, below_drewN (Below.refl _ _) _⟩

def boMark (k : Int) (i : Nat) : Bool := (k + (i : Int)) % 3 == 0

set_option maxHeartbeats 800000 in
theorem markBo_any (g cap : Nat) (L : List Bool) (k : Int) (w : World) (h : OwnV w g (L.map Value.bool)) (hn : L.length ≤ 1048576) (hk0 : 0 ≤ k) (hk1 : k ≤ 4611686018427387904) :
    Calls Try.prog 45 #[.slice (some ⟨g, 0, none⟩) L.length cap, .int .i64 k] w fun e w' => e = .returned (.int .i64 (k + (L.length : Int))) ∧ Kept (fun b => b = g) w w' ∧ OwnV w' g ((marksL (boMark k) L.length).map Value.bool) := by
  have HM0 := hide h
  clear h
  go_enter Try.func45, Try.ntmps45
  go_wp2
  go_loopg [1, 5] L.length (fun gh kv iv wr => ∃ j : Nat, j ≤ L.length ∧ gh = L.length - j ∧ iv = .int .i64 j ∧ kv = .int .i64 (k + (j : Int)) ∧ Kept (fun b => b = g) w wr ∧ OwnV wr g ((midL (boMark k) L j).map Value.bool))
  case atStart => exact ⟨0, Nat.zero_le _, rfl, rfl, by congr 1; omega, Kept.refl _ _, by rw [midL_zero]; exact unhide HM0⟩
  case round =>
    obtain ⟨j, hj, rfl, rfl, rfl, hK, hM⟩ := hrel
    clear HM0
    by_cases hjn : j < L.length
    · have hf := hM.frozen
      have hu0 := hM.cell (map_get (E := Value.bool) (midL (boMark k) L j) (i := j) (by rw [midL_len]; exact hjn))
      have hN := hM.set j (.bool (boMark k j)) (by rw [List.length_map, midL_len]; exact hjn)
      rw [← List.map_set, midL_step] at hN
      have HN := hide hN
      have HK := hide hK
      unfold boMark at HN
      clear hM hK hN
      generalize (midL (boMark k) L j).getD j default = z0 at *
      have hji : (j : Int) < L.length := by omega
      go_wp2
      go_roundg (L.length - (j + 1))
      case measure => omega
      case rel => exact ⟨j + 1, by omega, rfl, by go_num, by congr 1; omega, (unhide HK).setCell (p := ⟨g, j, none⟩) rfl _, unhide HN⟩
    · have hjj : j = L.length := by omega
      subst hjj
      go_wp2
      go_ret
      exact ⟨rfl, hK, by rw [← midL_done]; exact hM⟩

theorem markBo_nil (ao : Option Addr) (cap : Nat) (k : Int) (w : World) :
    Calls Try.prog 45 #[.slice ao 0 cap, .int .i64 k] w fun e w' => e = .returned (.int .i64 k) ∧ w = w' := by
  go_enter Try.func45, Try.ntmps45
  go_wp2
  go_loopg [1, 5] 0 (fun _ kv iv wr => w = wr ∧ iv = .int .i64 0 ∧ kv = .int .i64 k)
  case atStart => exact ⟨rfl, rfl, rfl⟩
  case round =>
    obtain ⟨rfl, rfl, rfl⟩ := hrel
    go_wp2
    go_ret
    exact ⟨rfl, rfl⟩

theorem markBoolS_v (B U : Nat) (ao : Option Addr) (n cap : Nat) (L : List Bool) (w : World) (h : OwnBoU B U w (.slice ao n cap) L) (hn : L.length ≤ 1048576) :
    Calls Try.prog 45 #[.slice ao n cap, .int .i64 1] w fun e w' => e = .returned (.int .i64 (1 + (L.length : Int))) ∧ Kept (fun b => B ≤ b ∧ b < U) w w' ∧ OwnBoU B U w' (.slice ao n cap) (marksL (boMark 1) L.length) := by
  obtain ⟨ao', cap', e, h1, h2, h3⟩ := h
  simp only [Value.slice.injEq] at e
  obtain ⟨rfl, rfl, rfl⟩ := e
  by_cases hne : L = []
  · subst hne
    refine (markBo_nil ao cap 1 w).mono ?_
    rintro e w' ⟨rfl, rfl⟩
    exact ⟨rfl, Kept.refl _ _, ao, cap, by rw [marksL_len], by rw [marksL_len]; exact h1, h2, fun h => absurd rfl h⟩
  · obtain ⟨g, rfl, hg, hu, ho⟩ := h3 hne
    refine (markBo_any g cap L 1 w ho hn (by omega) (by omega)).mono ?_
    rintro e w' ⟨rfl, hk, ho'⟩
    exact ⟨rfl, hk.mono (fun b _ hb => by rw [hb]; exact ⟨hg, hu⟩), _, cap, by rw [marksL_len], by rw [marksL_len]; exact h1, h2, fun _ => ⟨g, rfl, hg, hu, ho'⟩⟩

set_option maxHeartbeats 800000 in
theorem heldBoolS_v (v : Value) (M : List Bool) (W : World) (hW : BoIn W v (marksL (boMark 1) M.length)) (hn : M.length ≤ 1048576) :
    Calls Try.prog 46 #[v, .int .i64 1] W fun e w' => e = .returned (.int .i64 (1 + (M.length : Int))) ∧ Below W.heap.size W w' := by
  obtain ⟨ao, cap, rfl, hl, hm, hc⟩ := hW
  have HC := hide hc
  clear hc
  rw [marksL_len] at HC hl ⊢
  unfold maxLen at hm
  generalize M.length = n at *
  go_enter Try.func46, Try.ntmps46
  go_wp2
  go_loopg [1, 5] n (fun gh kv iv wr => (∃ q, wr = W.drewN q) ∧ ∃ j : Nat, j ≤ n ∧ gh = n - j ∧ iv = .int .i64 j ∧ kv = .int .i64 (1 + (j : Int)))
  case atStart => exact ⟨⟨0, rfl⟩, 0, Nat.zero_le _, rfl, rfl, by congr 1⟩
  case round =>
    obtain ⟨⟨q, hq⟩, j, hj, rfl, rfl, rfl⟩ := hrel
    have HW := hide hq
    by_cases hjn : j < n
    · obtain ⟨b, o, rfl, hcell⟩ := unhide HC j hjn
      rw [marksL_get (boMark 1) hjn] at hcell
      unfold boMark at hcell
      have c0 : wr.cell? ⟨b, o + j, none⟩ = some (.bool ((1 + (j : Int)) % 3 == 0)) := by rw [hq]; exact hcell
      have hji : (j : Int) < n := by omega
      clear hq hcell
      cases hb : ((1 + (j : Int)) % 3 == 0)
      all_goals
        rw [hb] at c0
        go_wp2
        go_roundg (n - (j + 1))
        case measure => omega
        case rel => exact ⟨⟨q, unhide HW⟩, j + 1, by omega, rfl, by go_num, by go_num⟩
    · have hjj : j = n := by omega
      subst hjj
      subst hq
      go_wp2
      go_ret
      exact ⟨rfl, below_drewN (Below.refl _ _) _⟩

end Go.Proofs.Ytgmhijbepkobkaa
