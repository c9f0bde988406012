/- Contract of the program's Depths. -/
import Derived.Test.YtglehiakikhlaaaTdA
import Derived.Test.YtglehiakikhlaaaOwM
namespace Go.Proofs.Ytglehiakikhlaaa
open Go.RowKit

attribute [local go_sem] run_store_float

set_option maxRecDepth 10000 in
set_option maxHeartbeats 4000000 in
theorem implDepths_any (v : Value) (xs : List Nat) (s : Nat) (w : World) (h : FlIn w v xs) :
    Calls Try.prog 17 #[v, .float .f64 s] w fun e w' => ∃ a n cp, e = .returned (.slice a n cp) ∧ OwnFls w.heap.size w' (.slice a n cp) (depthsOf xs s) ∧ Below w.heap.size w w' := by
  obtain ⟨ao, cap, rfl, hl, hm, hc⟩ := h
  unfold maxLen at hm
  have HC := hide hc
  clear hc
  by_cases h1500 : xs.length ≤ 1500
  · have HD : Hid (depthsOf xs s = xs.map (fun x => fop .add .f64 x s)) := by show _ = _; rw [depthsOf, if_pos h1500]
    have h15 : (xs.length : Int) ≤ 1500 := by omega
    have hmk := run_make_row' (P := Try.prog) 24 25 (.float .f64 0) 8 Try.underlying24 Try.infoF64 rfl .i64 .i64 xs.length (by omega) (by omega)
    have HF0 := hide (fill_made (Value.float .f64) w (.float .f64 0) xs.length 25)
    go_enter Try.func17, Try.ntmps17
    go_wp2
    clear hmk
    go_loopg [15] xs.length (fun g i wr => ∃ k : Nat, k ≤ xs.length ∧ g = xs.length - k ∧ i = .int .i64 k ∧ ∃ ys, fsames ys ((xs.take k).map (fun x => fop .add .f64 x s)) ∧ ys.length = k ∧ FilE (Value.float .f64) (.float .f64 0) xs.length w.heap.size w wr ys)
    case atStart => exact ⟨0, Nat.zero_le _, rfl, rfl, [], fsames.refl _, rfl, unhide HF0⟩
    case round =>
      obtain ⟨k, hk, rfl, rfl, ys, hys, hyl, hF⟩ := hrel
      have HG := hide hF
      have HY := hide hys
      have HYL := hide hyl
      clear hF hys HF0
      by_cases hkn : k < xs.length
      · obtain ⟨b, o, rfl, hcell⟩ := unhide HC k hkn
        have g0 := ((unhide HG).below.cell (lt_of_cell hcell)).trans hcell
        have g1 := (unhide HG).lt (by omega)
        have g2 := (unhide HG).own.frozen k
        rw [hyl] at g1
        have EX := hide (take_snoc xs hkn)
        rw [show xs.getD k default = xs.getD k 0 from rfl] at EX
        have hki : (k : Int) < xs.length := by omega
        have hbne : ¬ b = w.heap.size := by have : b < w.heap.size := lt_of_cell hcell; omega
        have hbne' : ¬ w.heap.size = b := fun e => hbne e.symm
        clear hcell hyl
        generalize xs.getD k 0 = x at *
        go_wp2_with (refine wpList_float rfl .add _ _ _ _ rfl rfl .f64 x s rfl rfl ?_; intro r n hr)
        go_roundg (xs.length - (k + 1))
        case measure => omega
        case rel =>
          have hk1 := unhide HYL
          subst hk1
          exact ⟨ys.length + 1, by omega, rfl, by go_num, ys ++ [r], by rw [unhide EX, List.map_append]; exact (unhide HY).snoc hr, by simp, ((unhide HG).drewN n).next hkn r⟩
      · have hkk : k = xs.length := by omega
        subst hkk
        have HO := hide ((unhide HG).done hyl (by unfold maxLen; omega))
        rw [List.take_length, ← unhide HD] at HY
        have HB := hide (unhide HG).below
        clear HG hyl
        go_wp2
        go_ret
        exact ⟨_, _, _, rfl, ⟨_, unhide HY, unhide HO⟩, unhide HB⟩
  · have HD : Hid (depthsOf xs s = []) := by show _ = _; rw [depthsOf, if_neg h1500]
    have h15 : (1500 : Int) < xs.length := by omega
    go_enter Try.func17, Try.ntmps17
    go_wp2
    go_ret
    exact ⟨_, _, _, rfl, by rw [unhide HD]; exact ⟨[], fsames.refl _, ownC_nil _ _ _⟩, Below.refl _ _⟩

end Go.Proofs.Ytglehiakikhlaaa
