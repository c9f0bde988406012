/- Contracts of l3All and stripsOk, and of both sides' Shear2. -/
import Derived.Test.YtnapggchejdcgaaSgA
import Derived.Deep.AppendLies
import Derived.Deep.RegionLaw
import Derived.Deep.RegionHeld3
namespace Go.Proofs.Ytnapggchejdcgaa
open Go.RowKit

set_option maxHeartbeats 400000 in
theorem l3All_any (v : Value) (xs : List Int) (a b : Int) (w : World) (h : IntsIn w v xs) :
    Calls Try.prog 59 #[v, .int .i64 a, .int .i64 b] w fun e w' => e = .returned (.bool (xs.all fun x => inB x a b)) ∧ w = w' := by
  obtain ⟨ao, cap, rfl, hl, hm, hc⟩ := h
  unfold maxLen at hm
  have HC := hide hc
  clear hc
  go_enter Try.func59, Try.ntmps59
  go_wp2
  go_loopg [7] xs.length (fun g i wr => w = wr ∧ ∃ k : Nat, k ≤ xs.length ∧ g = xs.length - k ∧ i = .int .i64 k ∧ Hid (∀ r, r < k → inB (xs.getD r 0) a b = true))
  case atStart => exact ⟨rfl, 0, Nat.zero_le _, rfl, rfl, fun r hr => by omega⟩
  case round =>
    obtain ⟨rfl, k, hk, rfl, rfl, HD⟩ := hrel
    by_cases hkn : k < xs.length
    · obtain ⟨p, o, rfl, hcell⟩ := unhide HC k hkn
      cases hin : inB (xs.getD k 0) a b with
      | true =>
        have HD' : Hid (∀ r, r < k + 1 → inB (xs.getD r 0) a b = true) := fun r hr => by
          by_cases e : r = k
          · subst e; exact hin
          · exact HD.out r (by omega)
        clear HD
        generalize xs.getD k 0 = x at *
        go_wp2_with (go_at_call 53; refine (l1In_any _ _ _ _).mono ?_; rintro e w' ⟨rfl, rfl⟩)
        go_roundg (xs.length - (k + 1))
        case measure => omega
        case rel => exact ⟨rfl, k + 1, by omega, rfl, by go_num, HD'⟩
      | false =>
        have HF : Hid ((xs.all fun x => inB x a b) = false) := all_false hkn (d := 0) hin
        clear HD
        generalize xs.getD k 0 = x at *
        go_wp2_with (go_at_call 53; refine (l1In_any _ _ _ _).mono ?_; rintro e w' ⟨rfl, rfl⟩)
        go_ret
        exact ⟨ret_bool (unhide HF).symm, rfl⟩
    · have HF : Hid ((xs.all fun x => inB x a b) = true) := all_true (d := 0) (fun r hr => HD.out r (by omega))
      clear HD
      go_wp2
      go_ret
      exact ⟨ret_bool (unhide HF).symm, rfl⟩

/-- The list begins with 0: one cell of the new list is filled. -/
theorem fillS_one (w : World) (f : Nat → Int) (n : Nat) (h0 : f 0 = 0) : FillS w (w.alloc (.cells (madeCells #[.int .i64 0] n) 3)) f n 1 :=
  ⟨(fillS_start w f n).below, (fillS_start w f n).row.congr (fun j _ => by
    by_cases h : j < 1
    · obtain rfl : j = 0 := by omega
      simp [h0]
    · simp [h])⟩

theorem FillS.cell {w wr : World} {f : Nat → Int} {n k j : Nat} (h : FillS w wr f n k) (hj : j < k) (hn : j < n) : wr.cell? ⟨w.heap.size, j, none⟩ = some (.int .i64 (f j)) := by
  have := h.row.cell hn
  rwa [if_pos hj] at this

theorem FillS.cell0 {w wr : World} {f : Nat → Int} {n k : Nat} (h : FillS w wr f n k) (hn : k < n) : wr.cell? ⟨w.heap.size, k, none⟩ = some (.int .i64 0) := by
  have := h.row.cell hn
  rwa [if_neg (by omega)] at this

end Go.Proofs.Ytnapggchejdcgaa
