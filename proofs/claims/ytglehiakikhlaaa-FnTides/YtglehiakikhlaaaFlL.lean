/- Lists of floats: contracts of the laws' own toFloat64S, eqFloat64S. -/
import Derived.Test.YtglehiakikhlaaaFlK
import Derived.Test.YtglehiakikhlaaaWalkC
namespace Go.Proofs.Ytglehiakikhlaaa
open Go.RowKit

attribute [local go_sem] run_store_float

theorem Try.infoF64 : (Try.prog.info? 25).map (fun i => (i.zero, i.size, i.bytes)) = some (some (.float .f64 0), 1, 8) := by kernel_rfl

/-- The new row, k of its cells filled. -/
structure FillF (w wr : World) (xs : List Nat) (k : Nat) : Prop where
  below : Below w.heap.size w wr
  size : wr.heap.size = w.heap.size + 1
  row : wr.rowIs w.heap.size 25 xs.length (fun i => if i < k then .float .f64 (xs.getD i 0) else .float .f64 0)

theorem fillF_start (w : World) (xs : List Nat) : FillF w (w.alloc (.cells (madeCells #[.float .f64 0] xs.length) 25)) xs 0 :=
  ⟨(Below.refl _ _).alloc (Nat.le_refl _) _, by simp, (World.rowIs_made w _ xs.length 25).congr (fun j _ => by simp)⟩

theorem fillF_step {w wr : World} {xs : List Nat} {k : Nat} (h : FillF w wr xs k) : FillF w (wr.setCell ⟨w.heap.size, k, none⟩ (.float .f64 (xs.getD k 0))) xs (k + 1) := by
  refine ⟨h.below.setCell (Nat.le_refl _) _, by simp [h.size], (h.row.set k _).congr (fun i _ => ?_)⟩
  by_cases e : i = k
  · subst e; simp
  · rw [if_neg e]
    by_cases hlt : i < k
    · rw [if_pos hlt, if_pos (by omega)]
    · rw [if_neg hlt, if_neg (by omega)]

theorem fillF_done {w wr : World} {xs : List Nat} (h : FillF w wr xs xs.length) : OwnV wr w.heap.size (fls xs) :=
  rowIs_ownV h.row (fls_length xs) (fun i hi => by rw [fls_get xs hi, if_pos hi])

set_option maxHeartbeats 400000 in
theorem toFloat64S_any (v : Value) (xs : List Nat) (w : World) (h : FlIn w v xs) (hs : xs.length ≤ 1048576) :
    Calls Try.prog 30 #[v] w fun e w' => e = .returned (.slice (some ⟨w.heap.size, 0, none⟩) xs.length xs.length) ∧ OwnV w' w.heap.size (fls xs) ∧ Below w.heap.size w w' ∧ w'.heap.size = w.heap.size + 1 := by
  obtain ⟨ao, cap, rfl, hl, hm, hc⟩ := h
  clear hl hm
  have HC := hide hc
  clear hc
  have hmk := run_make_row' (P := Try.prog) 24 25 (.float .f64 0) 8 Try.underlying24 Try.infoF64 rfl .i64 .i64 xs.length (by omega) (by omega)
  go_enter Try.func30, Try.ntmps30
  go_wp2
  clear hmk
  go_loopg [4] xs.length (fun g i wr => ∃ k : Nat, k ≤ xs.length ∧ g = xs.length - k ∧ i = .int .i64 k ∧ FillF w wr xs k)
  case atStart => exact ⟨0, Nat.zero_le _, rfl, rfl, fillF_start w xs⟩
  case round =>
    obtain ⟨k, hk, rfl, rfl, hF⟩ := hrel
    by_cases hkn : k < xs.length
    · obtain ⟨b, o, rfl, hcell⟩ := unhide HC k hkn
      have g1 : wr.cell? ⟨b, o + k, none⟩ = some (.float .f64 (xs.getD k 0)) := (hF.below.cell (lt_of_cell hcell)).trans hcell
      have g2 : wr.cell? ⟨w.heap.size, k, none⟩ = some (.float .f64 0) := by simpa using hF.row.cell hkn
      have g3 : wr.frozen? ⟨w.heap.size, k, none⟩ = false := hF.row.frozen k
      have hst := fillF_step hF
      clear hcell hF
      have HF := hide hst
      clear hst
      generalize xs.getD k 0 = x at *
      go_wp2
      go_roundg (xs.length - (k + 1))
      case measure => omega
      case rel => exact ⟨k + 1, by omega, rfl, by go_num, unhide HF⟩
    · have hkk : k = xs.length := by omega
      subst hkk
      go_wp2
      go_ret
      exact ⟨rfl, fillF_done hF, hF.below, hF.size⟩

set_option maxHeartbeats 400000 in
theorem eqFloat64S_any (v v' : Value) (xs : List Nat) (w : World) (h : FlIn w v xs) (h' : FlIn w v' xs) :
    Calls Try.prog 24 #[v, v'] w fun e w' => e = .returned (.bool true) ∧ ∃ n, w' = w.drewN n := by
  obtain ⟨ao, cap, rfl, hl, hm, hc⟩ := h
  obtain ⟨ao', cap', rfl, _, _, hc'⟩ := h'
  unfold maxLen at hm
  have HC := hide hc
  have HC' := hide hc'
  clear hc hc'
  go_enter Try.func24, Try.ntmps24
  go_wp2
  go_loopg [5] xs.length (fun g i wr => ∃ q, wr = w.drewN q ∧ ∃ k : Nat, k ≤ xs.length ∧ g = xs.length - k ∧ i = .int .i64 k)
  case atStart => exact ⟨0, rfl, 0, Nat.zero_le _, rfl, rfl⟩
  case round =>
    obtain ⟨q, hq, k, hk, rfl, rfl⟩ := hrel
    by_cases hkn : k < xs.length
    · obtain ⟨b, o, rfl, hcell⟩ := unhide HC k hkn
      obtain ⟨b', o', rfl, hcell'⟩ := unhide HC' k hkn
      generalize xs.getD k 0 = x at *
      have c0 : wr.cell? ⟨b, o + k, none⟩ = some (.float .f64 x) := by rw [hq]; exact hcell
      have c1 : wr.cell? ⟨b', o' + k, none⟩ = some (.float .f64 x) := by rw [hq]; exact hcell'
      have HSF := hide fun n => sameFloat_q x x (wr.drewN n) (fsame.refl .f64 x)
      have HQ := hide hq
      clear hq hcell hcell'
      go_wp2
      go_quiet ((go_at_call 39; exact Calls.quiet_of (unhide HSF _)))
      go_wp2
      go_roundg (xs.length - (k + 1))
      case measure => omega
      case rel => exact ⟨_, by rw [unhide HQ]; exact World.drewN_drewN _ _ _, k + 1, by omega, rfl, by go_num⟩
    · subst hq
      go_wp2
      go_ret
      exact ⟨rfl, q, rfl⟩

end Go.Proofs.Ytglehiakikhlaaa
