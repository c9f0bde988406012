/- The contract of the stable sort's swapRange. Written by wip/mkly.py. -/
import Derived.Test.YtogoknldhimgfaaBvW
import Derived.BigRegion
namespace Go.Proofs.Ytogoknldhimgfaa
open Go.RowKit

/-- What is left of a row in place. -/
def RowAns (g : Nat) (w : World) (p : List Int → Prop) (e : Ending) (w' : World) : Prop := e = .returned (.tuple #[]) ∧ (∃ E, OwnV w' g (ints E) ∧ p E) ∧ Kept (fun b => b = g) w w'
theorem rowAns_mk {g : Nat} {w w' : World} {p : List Int → Prop} {E : List Int} (h1 : OwnV w' g (ints E)) (h2 : p E) (h3 : Kept (fun b => b = g) w w') : RowAns g w p (.returned (.tuple #[])) w' := ⟨rfl, ⟨E, h1, h2⟩, h3⟩

set_option maxRecDepth 10000 in
set_option maxHeartbeats 4000000 in
theorem swapRange_any (g n cap a b k : Nat) (cf : Value) (D : List Int) (w : World) (h : OwnV w g (ints D)) (hn : D.length = n) (hab : a + k ≤ b) (hbn : b + k ≤ n) (hn1 : n ≤ 1000) (hc : n ≤ cap) (hcm : cap ≤ 1048576) :
    Calls Try.prog 94 #[.slice (some ⟨g, 0, none⟩) n cap, .int .i64 (a : Int), .int .i64 (b : Int), .int .i64 (k : Int), cf] w (RowAns g w fun E => Seg a (b + k) D E ∧ ∀ j, ix E j = swr (ix D) a b k j) := by
  have HO := hide h
  have HN := hide hn
  have HD : Hid (Seg a (b + k) D D ∧ ∀ j, ix D j = swr (ix D) a b 0 j) := ⟨Seg.refl _ _ _, fun j => (swr_zero _ _ _ _).symm⟩
  clear h hn
  go_enter Try.func94, Try.ntmps94
  go_wp2
  go_loopg [10] k (fun gg iv wr => ∃ (i : Nat) (E : List Int), i ≤ k ∧ gg = k - i ∧ iv = .int .i64 (i : Int) ∧ Hid (OwnV wr g (ints E)) ∧ Hid (Seg a (b + k) D E ∧ ∀ j, ix E j = swr (ix D) a b i j) ∧ Hid (Kept (fun b => b = g) w wr))
  case atStart => exact ⟨0, D, Nat.zero_le _, rfl, rfl, HO, HD, Kept.refl _ _⟩
  case round =>
    clear HO HD
    obtain ⟨i, E, hi, rfl, rfl, HO, HD, HK⟩ := hrel
    by_cases hik : i < k
    · have hiI : (i : Int) < k := by omega
      have hl : E.length = n := (unhide HD).1.len.trans (unhide HN)
      obtain ⟨p, ep⟩ : ∃ p : Nat, p = a + i := ⟨_, rfl⟩
      obtain ⟨q, eq⟩ : ∃ q : Nat, q = b + i := ⟨_, rfl⟩
      have w1 : IntKind.i64.wrap ((a : Int) + (i : Int)) = (p : Int) := by rw [IntKind.wrap_i64]; omega
      have w2 : IntKind.i64.wrap ((b : Int) + (i : Int)) = (q : Int) := by rw [IntKind.wrap_i64]; omega
      have hp : p < n := by omega
      have hq : q < n := by omega
      have hpI : (p : Int) < n := by omega
      have hqI : (q : Int) < n := by omega
      have n1 : ¬ p = q := by omega
      have n2 : ¬ q = p := by omega
      have cp := (unhide HO).cell (ints_atA (M := E) (p := p) (by omega))
      have cq := (unhide HO).cell (ints_atA (M := E) (p := q) (by omega))
      have fz := (unhide HO).frozen
      have HN2 := hide (own_swp (unhide HO) (i := p) (j := q) (by omega) (by omega))
      have HK2 := hide (kept_swp (i := p) (j := q) (x := .int .i64 (ix E q)) (y := .int .i64 (ix E p)) (unhide HK))
      have HD2 : Hid (Seg a (b + k) D (swp E p q) ∧ ∀ j, ix (swp E p q) j = swr (ix D) a b (i + 1) j) := ⟨(unhide HD).1.trans (Seg.swap (by omega) (by omega) (by omega) (by omega) (by omega)), by rw [ep, eq]; exact swr_next hab hik (by omega) (unhide HD).2⟩
      generalize swp E p q = E2 at *
      generalize ix E p = vp at *
      generalize ix E q = vq at *
      clear ep eq HO HD HK hl
      go_wp2_with fail
      go_region
      all_goals
        go_wp2
        go_roundg (k - (i + 1))
        case measure => omega
        case rel => first | exact ⟨i + 1, E2, by omega, rfl, by go_num, HN2, HD2, HK2⟩ | exact ⟨i + 1, E2, by omega, rfl, by go_num, OwnV.step (unhide HN2) (Below.refl _ _).drew, HD2, kept_drew (unhide HK2)⟩
    · obtain rfl : i = k := by omega
      go_wp2
      go_end0
      exact rowAns_mk (unhide HO) (unhide HD) (unhide HK)


end Go.Proofs.Ytogoknldhimgfaa
