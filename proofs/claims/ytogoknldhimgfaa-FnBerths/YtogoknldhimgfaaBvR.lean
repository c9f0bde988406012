/- The contract of the stable sort's rotate. Written by wip/mkly.py. -/
import Derived.Test.YtogoknldhimgfaaBvA
namespace Go.Proofs.Ytogoknldhimgfaa
open Go.RowKit

set_option maxRecDepth 10000 in
set_option maxHeartbeats 4000000 in
theorem rotate_any (g n cap a m b : Nat) (cf : Value) (D : List Int) (w : World) (h : OwnV w g (ints D)) (hn : D.length = n) (ham : a < m) (hmb : m < b) (hbn : b ≤ n) (hn1 : n ≤ 1000) (hc : n ≤ cap) (hcm : cap ≤ 1048576) :
    Calls Try.prog 93 #[.slice (some ⟨g, 0, none⟩) n cap, .int .i64 (a : Int), .int .i64 (m : Int), .int .i64 (b : Int), cf] w (RowAns g w fun E => Seg a b D E ∧ ∀ j, ix E j = rot (ix D) a m b j) := by
  have HO := hide h
  have HN := hide hn
  obtain ⟨i0, ei⟩ : ∃ i, i = m - a := ⟨_, rfl⟩
  obtain ⟨j0, ej⟩ : ∃ j, j = b - m := ⟨_, rfl⟩
  have HD : Hid (Seg a b D D ∧ ∀ k, rot (ix D) (m - i0) m (m + j0) k = rot (ix D) a m b k) := ⟨Seg.refl _ _ _, fun k => by rw [show m - i0 = a by omega, show m + j0 = b by omega]⟩
  have w1 : IntKind.i64.wrap ((m : Int) - (a : Int)) = (i0 : Int) := by rw [IntKind.wrap_i64]; omega
  have w2 : IntKind.i64.wrap ((b : Int) - (m : Int)) = (j0 : Int) := by rw [IntKind.wrap_i64]; omega
  have hi1 : 0 < i0 := by omega
  have hi2 : a + i0 ≤ m := by omega
  have hj1 : 0 < j0 := by omega
  have hj2 : m + j0 ≤ b := by omega
  clear h hn ei ej
  have HS := hide fun E V (hE : OwnV V g (ints E)) (hl : E.length = n) (x y z : Nat) (h1 : x + z ≤ y) (h2 : y + z ≤ n) => swapRange_any g n cap x y z cf E V hE hl h1 h2 hn1 hc hcm
  go_enter Try.func93, Try.ntmps93
  go_wp2
  go_loopg [10, 11] (i0 + j0) (fun gg iv jv wr => ∃ (i j : Nat) (E : List Int), gg = i + j ∧ iv = .int .i64 (i : Int) ∧ jv = .int .i64 (j : Int) ∧ 0 < i ∧ a + i ≤ m ∧ 0 < j ∧ m + j ≤ b ∧ Hid (OwnV wr g (ints E)) ∧ Hid (Seg a b D E ∧ ∀ k, rot (ix E) (m - i) m (m + j) k = rot (ix D) a m b k) ∧ Hid (Kept (fun b => b = g) w wr))
  case atStart => exact ⟨i0, j0, D, rfl, rfl, rfl, hi1, hi2, hj1, hj2, HO, HD, Kept.refl _ _⟩
  case round =>
    clear HO HD w1 w2 hi1 hi2 hj1 hj2
    obtain ⟨i, j, E, rfl, rfl, rfl, hi1, hi2, hj1, hj2, HO, HD, HK⟩ := hrel
    have HL : Hid (E.length = n) := (unhide HD).1.len.trans (unhide HN)
    obtain ⟨p, ep⟩ : ∃ p : Nat, p = m - i := ⟨_, rfl⟩
    have w1 : IntKind.i64.wrap ((m : Int) - (i : Int)) = (p : Int) := by rw [IntKind.wrap_i64]; omega
    have p1 : p + i ≤ m := by omega
    have p2 : a ≤ p := by omega
    have EP := hide ep
    clear ep
    by_cases hij : i = j
    · subst hij
      have hne : ((i : Int) != (i : Int)) = false := by simp
      go_wp2_with fail
      refine (unhide HS E _ (unhide HO) (unhide HL) p m i (by omega) (by omega)).mono ?_
      rintro e w2 ⟨rfl, ⟨E2, ho, hs, hx⟩, hk⟩
      have HO2 := hide ho
      have HD2 : Hid (Seg a b D E2 ∧ ∀ k, ix E2 k = rot (ix D) a m b k) := ⟨(unhide HD).1.trans (hs.mono (by omega) (by omega)), fun k => by rw [← (unhide HD).2 k, hx k, unhide EP]; exact rot_end (by omega)⟩
      have HK2 := hide ((unhide HK).trans hk)
      clear ho hs hx hk
      go_wp2
      go_end0
      exact rowAns_mk (unhide HO2) (unhide HD2) (unhide HK2)
    · have hne : ((i : Int) != (j : Int)) = true := by simp; omega
      by_cases hgt : j < i
      · have dg : decide ((j : Int) < (i : Int)) = true := by simp; omega
        have w3 : IntKind.i64.wrap ((i : Int) - (j : Int)) = ((i - j : Nat) : Int) := by rw [IntKind.wrap_i64]; omega
        go_wp2_with fail
        refine (unhide HS E _ (unhide HO) (unhide HL) p m j (by omega) (by omega)).mono ?_
        rintro e w2 ⟨rfl, ⟨E2, ho, hs, hx⟩, hk⟩
        have HO2 := hide ho
        have HD2 : Hid (Seg a b D E2 ∧ ∀ k, rot (ix E2) (m - (i - j)) m (m + j) k = rot (ix D) a m b k) := ⟨(unhide HD).1.trans (hs.mono (by omega) (by omega)), fun k => by rw [← (unhide HD).2 k]; exact rot_left (by omega) hj1 hgt (by rw [← unhide EP]; exact hx) k⟩
        have HK2 := hide ((unhide HK).trans hk)
        clear ho hs hx hk
        go_wp2
        go_roundg (i - j + j)
        case measure => omega
        case rel => exact ⟨i - j, j, E2, rfl, rfl, rfl, by omega, by omega, hj1, hj2, HO2, HD2, HK2⟩
      · have dg : decide ((j : Int) < (i : Int)) = false := by simp; omega
        have w3 : IntKind.i64.wrap ((j : Int) - (i : Int)) = ((j - i : Nat) : Int) := by rw [IntKind.wrap_i64]; omega
        obtain ⟨q, eq⟩ : ∃ q : Nat, q = m + j - i := ⟨_, rfl⟩
        have w4 : IntKind.i64.wrap ((m : Int) + (j : Int)) = (m : Int) + (j : Int) := by rw [IntKind.wrap_i64]; omega
        have w5 : IntKind.i64.wrap ((m : Int) + (j : Int) - (i : Int)) = (q : Int) := by rw [IntKind.wrap_i64]; omega
        have q1 : q + i ≤ m + j := by omega
        have q2 : p + i ≤ q := by omega
        have EQ := hide eq
        clear eq
        go_wp2_with fail
        refine (unhide HS E _ (unhide HO) (unhide HL) p q i (by omega) (by omega)).mono ?_
        rintro e w2 ⟨rfl, ⟨E2, ho, hs, hx⟩, hk⟩
        have HO2 := hide ho
        have HD2 : Hid (Seg a b D E2 ∧ ∀ k, rot (ix E2) (m - i) m (m + (j - i)) k = rot (ix D) a m b k) := ⟨(unhide HD).1.trans (hs.mono (by omega) (by omega)), fun k => by rw [← (unhide HD).2 k]; exact rot_right (by omega) hi1 (by omega) (by rw [← unhide EP, ← unhide EQ]; exact hx) k⟩
        have HK2 := hide ((unhide HK).trans hk)
        clear ho hs hx hk
        go_wp2
        go_roundg (i + (j - i))
        case measure => omega
        case rel => exact ⟨i, j - i, E2, rfl, rfl, rfl, hi1, hi2, by omega, by omega, HO2, HD2, HK2⟩


end Go.Proofs.Ytogoknldhimgfaa
