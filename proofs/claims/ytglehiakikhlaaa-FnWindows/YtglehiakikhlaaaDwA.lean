/- Contracts of the specification's draws of floats: l1Below of a greater number, l4Odd, l4DrawFloat. -/
import Derived.Test.YtglehiakikhlaaaDraw
import Derived.Test.YtglehiakikhlaaaFlF
namespace Go.Proofs.Ytglehiakikhlaaa
open Go.RowKit

attribute [local go_sem] unary_neg_float

set_option maxHeartbeats 800000 in
theorem l1BelowW_any (cb n : Nat) (v : Value) (k : Int) (w : World) (h : Cur w cb v n) (hn : n ≤ 1048576) (hk0 : 1 ≤ k) (hk1 : k ≤ 100000) :
    Calls Try.prog 45 #[.pointer (some ⟨cb, 0, none⟩), .int .i64 k] w fun e w' => ∃ x, e = .returned (.int .i64 x) ∧ 0 ≤ x ∧ x < k ∧ Cur w' cb v n ∧ Kept (fun b => b = cb) w w' := by
  by_cases h256 : k ≤ 256
  · exact l1Below_any cb n v k w h hn hk0 h256
  have HC := hide h
  have HK := hide (Kept.refl (fun b => b = cb) w)
  have HB := hide fun V hV => l1Byte_any cb n v V hV hn
  have hk2 : (256 : Int) < k := by omega
  clear h h256
  go_enter Try.func45, Try.ntmps45
  go_wp2_with fail
  refine (unhide HB _ (unhide HC)).mono ?_
  rintro e w1 ⟨x, rfl, hx0, hx1, hc, hk⟩
  replace HC := hide hc
  replace HK := hide ((unhide HK).trans hk)
  clear hc hk
  go_wp2_with fail
  refine (unhide HB _ (unhide HC)).mono ?_
  rintro e w2 ⟨y, rfl, hy0, hy1, hc, hk⟩
  replace HC := hide hc
  replace HK := hide ((unhide HK).trans hk)
  clear hc hk
  go_wp2_with fail
  refine (unhide HB _ (unhide HC)).mono ?_
  rintro e w3 ⟨z, rfl, hz0, hz1, hc, hk⟩
  replace HC := hide hc
  replace HK := hide ((unhide HK).trans hk)
  clear hc hk
  go_wp2_with fail
  refine (unhide HB _ (unhide HC)).mono ?_
  rintro e w4 ⟨t, rfl, ht0, ht1, hc, hk⟩
  replace HC := hide hc
  replace HK := hide ((unhide HK).trans hk)
  clear hc hk HB
  go_wp2
  go_ret
  exact ⟨_, rfl, Int.emod_nonneg _ (by omega), Int.emod_lt_of_pos _ (by omega), unhide HC, unhide HK⟩

theorem kept_drewN (T : Nat → Prop) {w w' : World} (h : Kept T w w') (q : Nat) : Kept T w (w'.drewN q) := h.trans (kept_of_below (below_drewN (Below.refl _ _) q))

set_option maxHeartbeats 800000 in
theorem l4Odd_any (k : Int) (z : Nat) (w : World) (h0 : 0 ≤ k) (h1 : k < 4) :
    Calls Try.prog 67 #[.int .i64 k, .float .f32 z] w fun e w' => ∃ r, e = .returned (.float .f32 r) ∧ ∃ q, w' = w.drewN q := by
  have hk : k = 0 ∨ k = 1 ∨ k = 2 ∨ k = 3 := by omega
  rcases hk with rfl | rfl | rfl | rfl
  · go_enter Try.func67, Try.ntmps67
    go_wp2
    go_ret
    exact ⟨_, rfl, 0, rfl⟩
  all_goals
    go_enter Try.func67, Try.ntmps67
    go_wp2_with (refine wpList_float rfl _ _ _ _ _ rfl rfl .f32 _ _ rfl rfl ?_; intro r q hr)
    go_ret
    exact ⟨_, rfl, _, rfl⟩

set_option maxRecDepth 10000 in
set_option maxHeartbeats 8000000 in
theorem l4DrawFloat_any (cb n : Nat) (v : Value) (w : World) (h : Cur w cb v n) (hn : n ≤ 1048576) :
    Calls Try.prog 47 #[.pointer (some ⟨cb, 0, none⟩)] w fun e w' => ∃ r, e = .returned (.float .f32 r) ∧ Cur w' cb v n ∧ Kept (fun b => b = cb) w w' := by
  have HC := hide h
  have HK := hide (Kept.refl (fun b => b = cb) w)
  have HB := hide fun k V hV h0 h1 => l1BelowW_any cb n v k V hV hn h0 h1
  have HO := hide fun V hV => l1Once_any cb n v 5 V hV hn (by omega) (by omega)
  clear h
  go_enter Try.func47, Try.ntmps47
  go_wp2_with fail
  refine (unhide HB _ _ (unhide HC) (by omega) (by omega)).mono ?_
  rintro e w1 ⟨x, rfl, hx0, hx1, hc, hk⟩
  replace HC := hide hc
  replace HK := hide ((unhide HK).trans hk)
  clear hc hk
  have hx : x = 0 ∨ x = 1 ∨ x = 2 ∨ x = 3 ∨ (x = 4 ∨ x = 5) ∨ (x = 6 ∨ x = 7 ∨ x = 8) := by omega
  rcases hx with rfl | rfl | rfl | rfl | hx | hx
  · go_wp2_with fail
    refine (unhide HB _ _ (unhide HC) (by omega) (by omega)).mono ?_
    rintro e w2 ⟨y, rfl, hy0, hy1, hc, hk⟩
    replace HC := hide hc
    replace HK := hide ((unhide HK).trans hk)
    clear hc hk HB HO
    go_wp2_with (refine wpList_float rfl _ _ _ _ _ rfl rfl .f32 _ _ rfl rfl ?_; intro r q hr)
    go_ret
    exact ⟨_, rfl, (unhide HC).drewN _, kept_drewN _ (unhide HK) _⟩
  · go_wp2_with fail
    refine (unhide HB _ _ (unhide HC) (by omega) (by omega)).mono ?_
    rintro e w2 ⟨y, rfl, hy0, hy1, hc, hk⟩
    replace HC := hide hc
    replace HK := hide ((unhide HK).trans hk)
    clear hc hk
    go_wp2_with (refine wpList_float rfl _ _ _ _ _ rfl rfl .f32 _ _ rfl rfl ?_; intro r q hr)
    refine (unhide HB _ _ ((unhide HC).drewN q) (by omega) (by omega)).mono ?_
    rintro e w3 ⟨t, rfl, ht0, ht1, hc, hk⟩
    replace HC := hide hc
    replace HK := hide ((kept_drewN _ (unhide HK) q).trans hk)
    obtain ⟨T, rfl⟩ := Int.eq_ofNat_of_zero_le ht0
    clear hc hk HB HO
    go_wp2
    go_loopg [3, 4] T (fun g fv iv wr => ∃ k : Nat, k ≤ T ∧ g = k ∧ iv = .int .i64 k ∧ (∃ r, fv = .float .f32 r) ∧ ∃ q, wr = w3.drewN q)
    case atStart => exact ⟨T, Nat.le_refl _, rfl, rfl, ⟨_, rfl⟩, 0, rfl⟩
    case round =>
      obtain ⟨k, hk, hg, rfl, ⟨r, rfl⟩, q, rfl⟩ := hrel
      by_cases hk0 : 0 < k
      · have hki : (0 : Int) < k := by omega
        have q1 : IntKind.i64.wrap ((k : Int) - 1) = ((k - 1 : Nat) : Int) := by rw [IntKind.wrap_i64]; omega
        have hkb : (k : Int) ≤ 60 := by omega
        go_wp2_with (refine wpList_float rfl _ _ _ _ _ rfl rfl .f32 _ _ rfl rfl ?_; intro r2 q2 hr2)
        go_roundg (k - 1)
        case measure => omega
        case rel => exact ⟨k - 1, by omega, rfl, by first | rfl | (congr 1; omega), ⟨_, rfl⟩, _, by first | rfl | exact World.drewN_drewN _ _ _⟩
      · have hk0 : k = 0 := by omega
        subst hk0
        go_wp2
        go_ret
        exact ⟨_, rfl, (unhide HC).drewN _, kept_drewN _ (unhide HK) _⟩
  · go_wp2_with fail
    refine (unhide HB _ _ (unhide HC) (by omega) (by omega)).mono ?_
    rintro e w2 ⟨y, rfl, hy0, hy1, hc, hk⟩
    replace HC := hide hc
    replace HK := hide ((unhide HK).trans hk)
    clear hc hk
    go_wp2_with (refine wpList_float rfl _ _ _ _ _ rfl rfl .f32 _ _ rfl rfl ?_; intro r q hr)
    refine (unhide HB _ _ ((unhide HC).drewN q) (by omega) (by omega)).mono ?_
    rintro e w3 ⟨t, rfl, ht0, ht1, hc, hk⟩
    replace HC := hide hc
    replace HK := hide ((kept_drewN _ (unhide HK) q).trans hk)
    obtain ⟨T, rfl⟩ := Int.eq_ofNat_of_zero_le ht0
    clear hc hk HB HO
    go_wp2
    go_loopg [5, 6] T (fun g fv iv wr => ∃ k : Nat, k ≤ T ∧ g = k ∧ iv = .int .i64 k ∧ (∃ r, fv = .float .f32 r) ∧ ∃ q, wr = w3.drewN q)
    case atStart => exact ⟨T, Nat.le_refl _, rfl, rfl, ⟨_, rfl⟩, 0, rfl⟩
    case round =>
      obtain ⟨k, hk, hg, rfl, ⟨r, rfl⟩, q, rfl⟩ := hrel
      by_cases hk0 : 0 < k
      · have hki : (0 : Int) < k := by omega
        have q1 : IntKind.i64.wrap ((k : Int) - 1) = ((k - 1 : Nat) : Int) := by rw [IntKind.wrap_i64]; omega
        have hkb : (k : Int) ≤ 80 := by omega
        go_wp2_with (refine wpList_float rfl _ _ _ _ _ rfl rfl .f32 _ _ rfl rfl ?_; intro r2 q2 hr2)
        go_roundg (k - 1)
        case measure => omega
        case rel => exact ⟨k - 1, by omega, rfl, by first | rfl | (congr 1; omega), ⟨_, rfl⟩, _, by first | rfl | exact World.drewN_drewN _ _ _⟩
      · have hk0 : k = 0 := by omega
        subst hk0
        go_wp2
        go_ret
        exact ⟨_, rfl, (unhide HC).drewN _, kept_drewN _ (unhide HK) _⟩
  · go_wp2_with fail
    refine (unhide HO _ (unhide HC)).mono ?_
    rintro e w2 ⟨b, rfl, hc, hk⟩
    replace HC := hide hc
    replace HK := hide ((unhide HK).trans hk)
    clear hc hk HO
    cases b with
    | true =>
      go_wp2_with fail
      refine (unhide HB _ _ (unhide HC) (by omega) (by omega)).mono ?_
      rintro e w3 ⟨y, rfl, hy0, hy1, hc, hk⟩
      replace HC := hide hc
      replace HK := hide ((unhide HK).trans hk)
      clear hc hk
      go_wp2_with fail
      refine (l4Odd_any y 0 _ hy0 hy1).mono ?_
      rintro e w4 ⟨r, rfl, q, rfl⟩
      go_wp2
      go_ret
      exact ⟨_, rfl, (unhide HC).drewN _, kept_drewN _ (unhide HK) _⟩
    | false =>
      go_wp2_with fail
      refine (unhide HB _ _ (unhide HC) (by omega) (by omega)).mono ?_
      rintro e w5 ⟨y5, rfl, hy0, hy1, hc, hk⟩
      replace HC := hide hc
      replace HK := hide ((unhide HK).trans hk)
      clear hc hk
      go_wp2
      go_ret
      exact ⟨_, rfl, unhide HC, unhide HK⟩
  · rcases hx with rfl | rfl
    all_goals
      go_wp2_with fail
      refine (unhide HB _ _ (unhide HC) (by omega) (by omega)).mono ?_
      rintro e w2 ⟨y, rfl, hy0, hy1, hc, hk⟩
      replace HC := hide hc
      replace HK := hide ((unhide HK).trans hk)
      clear hc hk
      go_wp2_with (refine wpList_float rfl _ _ _ _ _ rfl rfl .f32 _ _ rfl rfl ?_; intro r q hr)
      go_ret
      exact ⟨_, rfl, (unhide HC).drewN _, kept_drewN _ (unhide HK) _⟩
  · rcases hx with rfl | rfl | rfl
    all_goals
      go_wp2_with fail
      refine (unhide HB _ _ (unhide HC) (by omega) (by omega)).mono ?_
      rintro e w5 ⟨y5, rfl, hy0, hy1, hc, hk⟩
      replace HC := hide hc
      replace HK := hide ((unhide HK).trans hk)
      clear hc hk
      go_wp2
      go_ret
      exact ⟨_, rfl, unhide HC, unhide HK⟩

end Go.Proofs.Ytglehiakikhlaaa
