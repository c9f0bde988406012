/- Contract of the program's HighLow, by its own reading of a NaN (the specification's is another: FnExactHighLow is false there). -/
import Derived.Test.YtglehiakikhlaaaFyB
import Derived.Test.YtglehiakikhlaaaTdB
import Derived.Test.YtglehiakikhlaaaOwnInts
import Derived.Test.YtglehiakikhlaaaTwoR
import Derived.Test.YtglehiakikhlaaaAppK
import Derived.Deep.QuietTactic
import Derived.BigQuiet
namespace Go.Proofs.Ytglehiakikhlaaa
open Go.RowKit

set_option maxHeartbeats 1600000 in
theorem isTide_any (x y z : Nat) (w : World) :
    Calls Try.prog 55 #[.float .f64 x, .float .f64 y, .float .f64 z] w fun e w' => e = .returned (.bool (tideB x y z)) ∧ w' = w := by
  obtain ⟨r, er⟩ : ∃ r, r = tideB x y z := ⟨_, rfl⟩
  rw [← er]
  have ER := hide er
  clear er
  unfold tideB at ER
  cases h1 : (FloatKind.f64.format.order y x == some .gt) <;> cases h2 : (FloatKind.f64.format.order y x == some .lt) <;> cases h3 : (FloatKind.f64.format.order y z == some .lt) <;> cases h4 : (FloatKind.f64.format.order y z == some .gt)
  all_goals
    have e1 := unhide ER
    rw [h1, h2, h3, h4] at e1
    clear ER
    simp only [Bool.false_and, Bool.true_and, Bool.not_true, Bool.not_false, Bool.or_false, Bool.or_true] at e1
    subst e1
    go_enter Try.func55, Try.ntmps55
    go_wp2
    go_ret
    exact ⟨rfl, rfl⟩

theorem ownsRow_slice {w : World} {base : Nat} {e : TypeId} {v : Value} {n : Nat} {vs : List Value} (h : w.ownsRow base e 1 v n vs) : ∃ a m cp, v = .slice a m cp ∧ m = n := by
  rcases h.2 with ⟨rfl, h0⟩ | ⟨g, cap, cur, rfl, _⟩
  · exact ⟨none, 0, 0, rfl, h0.symm⟩
  · exact ⟨_, n, cap, rfl, rfl⟩

set_option maxRecDepth 10000 in
set_option maxHeartbeats 8000000 in
theorem implHighLowP_any (v : Value) (xs : List Nat) (w : World) (h : FlIn w v xs) (h1500 : xs.length ≤ 1500) :
    Calls Try.prog 19 #[v] w fun e w' => ∃ a n cp, e = .returned (.slice a n cp) ∧ n = (highsP xs).length ∧ Below w.heap.size w w' := by
  obtain ⟨ao, cap, rfl, hl, hm, hc⟩ := h
  unfold maxLen at hm
  have HC := hide hc
  clear hc
  obtain ⟨i0, hi, hz0, hz1, hz2⟩ := info_parts Try.infoInt
  have HD : Hid (highsP xs = hpTo xs xs.length) := by show _ = _; rw [highsP, if_pos h1500]
  have h15 : (xs.length : Int) ≤ 1500 := by omega
  go_enter Try.func19, Try.ntmps19
  go_wp2
  go_loopg [3, 10] xs.length (fun g ov i wr => ∃ k : Nat, k ≤ xs.length ∧ g = xs.length - k ∧ i = .int .i64 k ∧ wr.ownsRow w.heap.size 3 1 ov (hpTo xs k).length (ints (hpTo xs k)) ∧ Below w.heap.size w wr)
  case atStart => exact ⟨0, Nat.zero_le _, rfl, rfl, ⟨rfl, Or.inl ⟨rfl, rfl⟩⟩, Below.refl _ _⟩
  case round =>
    obtain ⟨k, hk, rfl, rfl, hO, hW⟩ := hrel
    have HG := hide hO
    have HW := hide hW
    have hsz := hW.size
    clear hO hW
    by_cases hkn : k < xs.length
    · have EX := hide (hpTo_succ xs k)
      have hLk := hpTo_len xs k
      obtain ⟨M, eM⟩ : ∃ M, M = hpTo xs k := ⟨_, rfl⟩
      rw [← eM] at HG EX hLk
      clear eM
      have hki : (k : Int) < xs.length := by omega
      by_cases h0 : 0 < k
      · have d0 : decide ((0 : Int) < (k : Int)) = true := by simp; omega
        have d0' : decide (0 < k) = true := by simp; omega
        by_cases h1 : k + 1 < xs.length
        · obtain ⟨j, ej⟩ : ∃ j, j = k - 1 := ⟨_, rfl⟩
          obtain ⟨n, en⟩ : ∃ n, n = k + 1 := ⟨_, rfl⟩
          obtain ⟨b, o, rfl, hcx⟩ := unhide HC j (by omega)
          obtain ⟨b', o', e1, hcy⟩ := unhide HC k (by omega)
          simp only [Option.some.injEq, Addr.mk.injEq, and_true] at e1
          obtain ⟨rfl, rfl⟩ := e1
          obtain ⟨b', o', e1, hcz⟩ := unhide HC n (by omega)
          simp only [Option.some.injEq, Addr.mk.injEq, and_true] at e1
          obtain ⟨rfl, rfl⟩ := e1
          have g0 := ((unhide HW).cell (lt_of_cell hcx)).trans hcx
          have g1 := ((unhide HW).cell (lt_of_cell hcy)).trans hcy
          have g2 := ((unhide HW).cell (lt_of_cell hcz)).trans hcz
          have EI : Hid (hpIs xs k = tideB (xs.getD j 0) (xs.getD k 0) (xs.getD n 0)) := by show _ = _; rw [ej, en, hpIs, decide_eq_true h0, decide_eq_true h1]; rfl
          rw [unhide EI] at EX
          clear hcx hcy hcz EI
          generalize xs.getD j 0 = x at *
          generalize xs.getD k 0 = y at *
          generalize xs.getD n 0 = z at *
          have q1 : IntKind.i64.wrap ((k : Int) - 1) = (j : Int) := by rw [IntKind.wrap_i64]; omega
          have q2 : IntKind.i64.wrap ((k : Int) + 1) = (n : Int) := by rw [IntKind.wrap_i64]; omega
          have b1 : (j : Int) < xs.length := by omega
          have b3 : (n : Int) < xs.length := by omega
          have b4 : decide ((n : Int) < (xs.length : Int)) = true := by simp; omega
          have b5 : decide (n < xs.length) = true := by simp; omega
          have HEN := hide en
          have HEJ := hide ej
          clear ej en
          have HR1 := hide fun q => ownsRow_below (ownsRow_below (unhide HG) (below_drewN (Below.refl _ wr) q)) (Below.alloc1 (wr.drewN q) (.cells #[.int .i64 k] 3))
          have HQ := hide fun V => isTide_any x y z V
          cases ht : tideB x y z with
          | true =>
            rw [ht] at HQ EX
            go_wp2
            go_quiet ((go_at_call 55; exact Calls.quiet_of_same (unhide HQ _)))
            go_wp2_with (at_builtin; refine wpList_append_lies _ rfl _ _ 45 rfl w.heap.size 3 i0 _ 1 8 Try.underlying45 hi hz0 hz1 hz2 rfl (by decide) _ M.length _ rfl (unhide HR1 nq) ⟨wr.heap.size, 0, none⟩ 1 1 [.int .i64 k] rfl rfl (cell_one_new _ _ _) (by simp [Value.oneCell']) (by omega) (by unfold maxLen; omega) (by omega) (by simp; omega) _ rfl ?_; intro g4 cap4 wa hown hgrow hat hlt; have HWa := hide (((below_drewN (unhide HW) nq).alloc (by simp; omega) (.cells #[.int .i64 k] 3)).grown hgrow (by simp; omega) (fun g hg => ((unhide HG).lt g hg).1)); have HOW := hide hown; clear hown hgrow hat)
            go_roundg (xs.length - (k + 1))
            case measure => omega
            case rel =>
              refine ⟨k + 1, by omega, rfl, by rw [unhide HEN], ?_, unhide HWa⟩
              rw [unhide EX, if_pos (by simp)]
              rw [show ints (M ++ [(k : Int)]) = ints M ++ [.int .i64 k] by simp [ints], List.length_append]
              exact unhide HOW
          | false =>
            rw [ht] at HQ EX
            go_wp2
            go_quiet ((go_at_call 55; exact Calls.quiet_of_same (unhide HQ _)))
            go_wp2
            go_roundg (xs.length - (k + 1))
            case measure => omega
            case rel =>
              refine ⟨k + 1, by omega, rfl, by rw [unhide HEN], ?_, below_drewN (unhide HW) _⟩
              rw [unhide EX, if_neg (by simp)]
              exact unhide HG
        · have EI : Hid (hpIs xs k = false) := by show _ = _; rw [hpIs, decide_eq_false h1]; simp
          rw [unhide EI] at EX
          obtain ⟨n, en⟩ : ∃ n, n = k + 1 := ⟨_, rfl⟩
          have q2 : IntKind.i64.wrap ((k : Int) + 1) = (n : Int) := by rw [IntKind.wrap_i64]; omega
          have b4 : decide ((n : Int) < (xs.length : Int)) = false := by simp; omega
          have b5 : decide (n < xs.length) = false := by simp; omega
          have HEN := hide en
          clear en EI
          go_wp2
          go_quiet (fail)
          go_wp2
          go_roundg (xs.length - (k + 1))
          case measure => omega
          case rel =>
            refine ⟨k + 1, by omega, rfl, by rw [unhide HEN], ?_, below_drewN (unhide HW) _⟩
            rw [unhide EX, if_neg (by simp)]
            exact unhide HG
      · have EI : Hid (hpIs xs k = false) := by show _ = _; rw [hpIs, decide_eq_false h0]; simp
        rw [unhide EI] at EX
        have d0 : decide ((0 : Int) < (k : Int)) = false := by simp; omega
        have d0' : decide (0 < k) = false := by simp; omega
        clear EI
        go_wp2
        go_quiet (fail)
        go_wp2
        go_roundg (xs.length - (k + 1))
        case measure => omega
        case rel =>
          refine ⟨k + 1, by omega, rfl, by go_num, ?_, below_drewN (unhide HW) _⟩
          rw [unhide EX, if_neg (by simp)]
          exact unhide HG
    · have hkk : k = xs.length := by omega
      subst hkk
      obtain ⟨a, n, cp, ev, hn⟩ := ownsRow_slice (unhide HG)
      subst ev
      rw [← unhide HD] at hn
      have HN := hide hn
      clear hn HG
      go_wp2
      go_ret
      exact ⟨_, _, _, rfl, unhide HN, unhide HW⟩

end Go.Proofs.Ytglehiakikhlaaa
