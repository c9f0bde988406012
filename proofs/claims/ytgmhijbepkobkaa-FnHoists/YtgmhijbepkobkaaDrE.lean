/- Frames: the specification's draws of a report. No statement about the program stands here. -/
import Derived.Test.YtgmhijbepkobkaaDraw
import Derived.Test.YtgmhijbepkobkaaAtBig
import Derived.Test.YtgmhijbepkobkaaExactKit
import Derived.Test.YtgmhijbepkobkaaOwnInts
namespace Go.Proofs.Ytgmhijbepkobkaa
open Go.RowKit

theorem cur_new {w : World} {v : Value} {n : Nat} (h : BytesIn w.heap.size w v n) (z : Int) (t : TypeId) : Cur (w.alloc (.cells #[v, .int .i64 0, .int .i64 z] t)) w.heap.size v n :=
  ⟨h.below (Below.alloc1 _ _) (Nat.le_refl _), 0, z, by omega, by omega, #[v, .int .i64 0, .int .i64 z], t, Go.Deep.blk_alloc_new _ _, fun i _ => by simp⟩

set_option maxHeartbeats 800000 in
theorem l1New_any (v : Value) (n : Nat) (w : World) (h : BytesIn w.heap.size w v n) (hn : n ≤ 1048576) :
    Calls Try.prog 50 #[v] w fun e w' => e = .returned (.pointer (some ⟨w.heap.size, 0, none⟩)) ∧ Cur w' w.heap.size v n ∧ Below w.heap.size w w' ∧ w'.heap.size = w.heap.size + 1 := by
  have HB := hide h
  obtain ⟨ao, cap, rfl, hl, hm, hc⟩ := h
  have HC := hide hc
  unfold maxLen at hm
  clear hc
  go_enter Try.func50, Try.ntmps50
  go_wp2
  go_loopg [3, 4] n (fun g hv iv wr => w = wr ∧ ∃ k : Nat, ∃ z : Int, k ≤ n ∧ g = n - k ∧ iv = .int .i64 k ∧ hv = .int .i64 z)
  case atStart => exact ⟨rfl, 0, _, Nat.zero_le _, rfl, rfl, rfl⟩
  case round =>
    obtain ⟨rfl, k, z, hk, rfl, rfl, rfl⟩ := hrel
    by_cases hkn : k < n
    · have hkn' : (k : Int) < (n : Int) := by omega
      by_cases hk4 : k < 4000
      · have hk4' : (k : Int) < 4000 := by omega
        obtain ⟨b, o, y, rfl, hlt, hcell, hy1, hy2⟩ := unhide HC k hkn
        go_wp2
        go_roundg (n - (k + 1))
        case measure => omega
        case rel => exact ⟨rfl, k + 1, _, by omega, rfl, by go_num, rfl⟩
      · have hk4' : decide ((k : Int) < 4000) = false := by simp; omega
        go_wp2
        go_ret
        exact ⟨rfl, cur_new (unhide HB) _ _, Below.alloc1 _ _, by simp⟩
    · have hkn' : decide ((k : Int) < (n : Int)) = false := by simp; omega
      go_wp2
      go_ret
      exact ⟨rfl, cur_new (unhide HB) _ _, Below.alloc1 _ _, by simp⟩

set_option maxHeartbeats 800000 in
theorem l1BelowV_any (cb n : Nat) (v : Value) (k : Int) (w : World) (h : Cur w cb v n) (hn : n ≤ 1048576) (hk0 : 1 ≤ k) (hk1 : k ≤ 1000000000) :
    Calls Try.prog 52 #[.pointer (some ⟨cb, 0, none⟩), .int .i64 k] w fun e w' => ∃ x, e = .returned (.int .i64 x) ∧ 0 ≤ x ∧ x < k ∧ Cur w' cb v n ∧ Kept (fun b => b = cb) w w' := by
  by_cases h256 : k ≤ 256
  · exact l1Below_any cb n v k w h hn hk0 h256
  have HC := hide h
  have HK := hide (Kept.refl (fun b => b = cb) w)
  have HB := hide fun V hV => l1Byte_any cb n v V hV hn
  have hk2 : (256 : Int) < k := by omega
  clear h h256
  go_enter Try.func52, Try.ntmps52
  go_wp2_with fail
  refine (unhide HB _ (unhide HC)).mono ?_
  rintro e w1 ⟨x, rfl, hx0, hx1, hc, hk⟩
  replace HC := hide hc
  replace HK := hide ((unhide HK).trans hk)
  clear hc hk
  go_wp2_with fail
  refine (unhide HB _ (unhide HC)).mono ?_
  rintro e w2 ⟨y, rfl, hy0, hy1, hc, hk⟩
  replace HC := hide hc
  replace HK := hide ((unhide HK).trans hk)
  clear hc hk
  go_wp2_with fail
  refine (unhide HB _ (unhide HC)).mono ?_
  rintro e w3 ⟨z, rfl, hz0, hz1, hc, hk⟩
  replace HC := hide hc
  replace HK := hide ((unhide HK).trans hk)
  clear hc hk
  go_wp2_with fail
  refine (unhide HB _ (unhide HC)).mono ?_
  rintro e w4 ⟨t, rfl, ht0, ht1, hc, hk⟩
  replace HC := hide hc
  replace HK := hide ((unhide HK).trans hk)
  clear hc hk HB
  go_wp2
  go_ret
  exact ⟨_, rfl, Int.emod_nonneg _ (by omega), Int.emod_lt_of_pos _ (by omega), unhide HC, unhide HK⟩

set_option maxHeartbeats 800000 in
theorem l1PickInt_any (cb n : Nat) (v : Value) (g m : Nat) (xs : List Int) (w : World) (h : Cur w cb v n) (hn : n ≤ 1048576) (hx : OwnV w g (ints xs)) (hg : g ≠ cb) (hm : xs.length = m) (hm0 : 1 ≤ m) (hm1 : m ≤ 256) :
    Calls Try.prog 61 #[.pointer (some ⟨cb, 0, none⟩), .slice (some ⟨g, 0, none⟩) m m] w fun e w' => ∃ x, e = .returned (.int .i64 x) ∧ Cur w' cb v n ∧ Kept (fun b => b = cb) w w' := by
  have HB := hide (l1Below_any cb n v m w h hn (by omega) (by omega))
  have HX := hide hx
  have HM := hide hm
  clear h hx hm
  go_enter Try.func61, Try.ntmps61
  go_wp2_with fail
  refine (unhide HB).mono ?_
  rintro e w1 ⟨x, rfl, hx0, hx1, hc, hk⟩
  have HC := hide hc
  have HK := hide hk
  obtain ⟨j, rfl⟩ : ∃ j : Nat, x = (j : Int) := ⟨x.toNat, by omega⟩
  have cj := ((unhide HX).kept hk hg).cell (ints_get xs (i := j) (by rw [unhide HM]; omega))
  generalize xs.getD j 0 = y at cj
  clear hc hk
  go_wp2
  go_ret
  exact ⟨_, rfl, unhide HC, unhide HK⟩

end Go.Proofs.Ytgmhijbepkobkaa
