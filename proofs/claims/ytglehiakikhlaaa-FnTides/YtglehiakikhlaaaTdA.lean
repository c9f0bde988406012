/- Contracts of the specification's Depths and UnderKeel. -/
import Derived.Test.YtglehiakikhlaaaFvA
import Derived.Test.YtglehiakikhlaaaBoA
import Derived.Test.YtglehiakikhlaaaFlF
import Derived.Test.YtglehiakikhlaaaTwoR
import Derived.Test.YtglehiakikhlaaaAppK
namespace Go.Proofs.Ytglehiakikhlaaa
open Go.RowKit

attribute [local go_sem] run_store_float

def depthsOf (xs : List Nat) (s : Nat) : List Nat := if xs.length ≤ 1500 then xs.map (fun x => fop .add .f64 x s) else []
theorem depthsOf_len (xs : List Nat) (s : Nat) : (depthsOf xs s).length ≤ 1500 := by
  unfold depthsOf
  split
  · simpa
  · simp
theorem take_snoc {α : Type} [Inhabited α] (xs : List α) {k : Nat} (hk : k < xs.length) : xs.take (k + 1) = xs.take k ++ [xs.getD k default] := by
  rw [List.take_add_one]; simp [List.getD, hk]

/-- A row of floats that grows, up to which NaN. -/
structure GrowF (w A : World) (v : Value) (k : Nat) (M : List Nat) : Prop where
  row : ∃ ys, fsames ys M ∧ A.ownsRow w.heap.size 25 1 v k (ys.map (Value.float .f64))
  len : M.length = k
  below : Below w.heap.size w A
  fv : ∃ g c, v = .slice (some ⟨g, 0, none⟩) k c

theorem growF_new (w A : World) (h : Below w.heap.size w A) : GrowF w (A.alloc (.cells #[] 25)) (.slice (some ⟨A.heap.size, 0, none⟩) 0 0) 0 [] :=
  ⟨⟨[], fsames.refl _, rfl, Or.inr ⟨A.heap.size, 0, #[], rfl, h.size, Go.Deep.blk_alloc_new _ _, Nat.le_refl _, Nat.zero_le _, rfl, rfl⟩⟩, rfl, Below.step h (Below.alloc1 _ _), ⟨_, _, rfl⟩⟩

theorem GrowF.done {w A : World} {v : Value} {k : Nat} {M : List Nat} (h : GrowF w A v k M) : OwnFls w.heap.size A v M := by
  obtain ⟨ys, h1, h2⟩ := h.row
  exact ⟨ys, h1, ownsRow_ownC h2 (by rw [h1.1, h.len])⟩

theorem GrowF.step {w A B : World} {v : Value} {k : Nat} {M : List Nat} (h : GrowF w A v k M) (hb : Below A.heap.size A B) : GrowF w B v k M := by
  obtain ⟨ys, h1, h2⟩ := h.row
  exact ⟨⟨ys, h1, ownsRow_below h2 hb⟩, h.len, Below.step h.below hb, h.fv⟩

/-- Behind an append. -/
theorem GrowF.next {w A B : World} {v : Value} {k g cap r x : Nat} {M ys : List Nat} (h : GrowF w A v k M) (hs : fsames ys M) (hr : fsame .f64 r x)
    (ho : B.ownsRow w.heap.size 25 1 (.slice (some ⟨g, 0, none⟩) (k + 1) cap) (k + 1) (ys.map (Value.float .f64) ++ [.float .f64 r])) (hb : Below w.heap.size w B) : GrowF w B (.slice (some ⟨g, 0, none⟩) (k + 1) cap) (k + 1) (M ++ [x]) :=
  ⟨⟨ys ++ [r], hs.snoc hr, by rw [List.map_append]; exact ho⟩, by simp [h.len], hb, ⟨_, _, rfl⟩⟩

set_option maxRecDepth 10000 in
set_option maxHeartbeats 4000000 in
theorem specDepths_any (v : Value) (xs : List Nat) (s : Nat) (w : World) (h : FlIn w v xs) :
    Calls Try.prog 29 #[v, .float .f64 s] w fun e w' => ∃ a n cp, e = .returned (.slice a n cp) ∧ OwnFls w.heap.size w' (.slice a n cp) (depthsOf xs s) ∧ Below w.heap.size w w' := by
  obtain ⟨ao, cap, rfl, hl, hm, hc⟩ := h
  unfold maxLen at hm
  have HC := hide hc
  clear hc
  have HG0 := hide (growF_new w w (Below.refl _ _))
  obtain ⟨i0, hi, hz0, hz1, hz2⟩ := info_parts Try.infoF64
  by_cases h1500 : xs.length ≤ 1500
  · have HD : Hid (depthsOf xs s = xs.map (fun x => fop .add .f64 x s)) := by show _ = _; rw [depthsOf, if_pos h1500]
    have h15 : (xs.length : Int) ≤ 1500 := by omega
    go_enter Try.func29, Try.ntmps29
    go_wp2
    go_loopg [5, 6] xs.length (fun g ov i wr => ∃ k : Nat, k ≤ xs.length ∧ g = xs.length - k ∧ i = .int .i64 k ∧ GrowF w wr ov k ((xs.take k).map (fun x => fop .add .f64 x s)))
    case atStart => exact ⟨0, Nat.zero_le _, rfl, rfl, unhide HG0⟩
    case round =>
      obtain ⟨k, hk, rfl, rfl, hG⟩ := hrel
      obtain ⟨g, c, rfl⟩ := hG.fv
      obtain ⟨ys, hys, hrow⟩ := hG.row
      have HG := hide hG
      have HR := hide hrow
      have HY := hide hys
      have hsz := hG.below.size
      clear hG hrow hys HG0
      by_cases hkn : k < xs.length
      · obtain ⟨b, o, rfl, hcell⟩ := unhide HC k hkn
        have g0 := ((unhide HG).below.cell (lt_of_cell hcell)).trans hcell
        have EX := hide (take_snoc xs hkn)
        rw [show xs.getD k default = xs.getD k 0 from rfl] at EX
        have hki : (k : Int) < xs.length := by omega
        clear hcell
        generalize xs.getD k 0 = x at *
        have HR1 := hide fun n r => ownsRow_below (ownsRow_below (unhide HR) (below_drewN (Below.refl _ wr) n)) (Below.alloc1 (wr.drewN n) (.cells #[.float .f64 r] 25))
        go_wp2_with (first | (refine wpList_float rfl .add _ _ _ _ rfl rfl .f64 x s rfl rfl ?_; intro r n hr) | (at_builtin; refine wpList_append_lies _ rfl _ _ 24 rfl w.heap.size 25 i0 _ 1 8 Try.underlying24 hi hz0 hz1 hz2 rfl (by decide) _ k _ rfl (unhide HR1 n r) ⟨wr.heap.size, 0, none⟩ 1 1 [.float .f64 r] rfl rfl (cell_one_new _ _ _) (by simp [Value.oneCell']) (by omega) (by unfold maxLen; omega) (by omega) (by simp; omega) _ rfl ?_; intro g1 cap1 wa hown hgrow hat hlt; have HWa := hide (((below_drewN (unhide HG).below n).alloc (by simp; omega) (.cells #[.float .f64 r] 25)).grown hgrow (by simp; omega) (fun g hg => ((unhide HR).lt g hg).1)); have HOW := hide hown; clear hown hgrow hat))
        go_roundg (xs.length - (k + 1))
        case measure => omega
        case rel => exact ⟨k + 1, by omega, rfl, by go_num, by rw [unhide EX, List.map_append]; exact (unhide HG).next (unhide HY) hr (unhide HOW) (unhide HWa)⟩
      · have hkk : k = xs.length := by omega
        subst hkk
        have HO := hide (unhide HG).done
        rw [List.take_length, ← unhide HD] at HO
        have HB := hide (unhide HG).below
        clear HG HR
        go_wp2
        go_ret
        exact ⟨_, _, _, rfl, unhide HO, unhide HB⟩
  · have HD : Hid (depthsOf xs s = []) := by show _ = _; rw [depthsOf, if_neg h1500]
    have h15 : (1500 : Int) < xs.length := by omega
    have HO := hide (unhide HG0).done
    have HB := hide (unhide HG0).below
    clear HG0
    go_enter Try.func29, Try.ntmps29
    go_wp2
    go_loopg [5, 6] 0 (fun _ ov i wr => wr = w.alloc (.cells #[] 25) ∧ i = .int .i64 0 ∧ ov = .slice (some ⟨w.heap.size, 0, none⟩) 0 0)
    case atStart => exact ⟨rfl, rfl, rfl⟩
    case round =>
      obtain ⟨rfl, rfl, rfl⟩ := hrel
      go_wp2
      go_ret
      exact ⟨_, _, _, rfl, by rw [unhide HD]; exact unhide HO, unhide HB⟩

end Go.Proofs.Ytglehiakikhlaaa
