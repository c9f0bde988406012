/- Lists of radios that a call tells: between two marks of memory; contracts of the laws' own markRadioS, heldRadioS over them. -/
import Derived.Test.YtkjikjeecjendaaRdN
namespace Go.Proofs.Ytkjikjeecjendaa
open Go.RowKit

theorem mkR_he (L : List Rad) (k : Int) (i : Nat) (hi : i < L.length) : ((mkR L k).getD i default).2.2.length = (L.getD i default).2.2.length := by rw [mkR_get L k i hi, marks_len]
theorem MarkR.own2 {w w' : World} {g : Nat} {G : Nat → Nat} {L : List Rad} {k0 : Int} (h : MarkR w w' g G L k0 L.length) : OwnRd w' g G (mkR L k0) := by
  obtain ⟨vs, hO, hl, hc, hd⟩ := h.row
  have hm := mkR_len L k0
  refine ⟨?_, fun r hr => ?_, fun r s h1 h2 => h.inc r s h1 (by rw [hm] at h2; exact h2)⟩
  · rw [← recCells_ext (vs := vs) (L := mkR L k0) (G := G) (by rw [hm]; exact hl) (fun r hr => ?_) (fun r hr => ?_) (fun r hr => ?_)]
    · exact hO
    · rw [hm] at hr
      rw [mkR_get L k0 r hr]; exact (hd r hr).1
    · rw [hm] at hr
      rw [mkR_get L k0 r hr]; exact (hd r hr).2
    · rw [hm] at hr
      rw [mkR_he L k0 r hr]; exact hc r hr
  · rw [hm] at hr
    refine ⟨h.beh r hr, ?_⟩
    rw [mkR_get L k0 r hr]
    exact h.done r hr hr

/-- The radios that a call told: its blocks from B on and below U. -/
def OwnRsU (B U : Nat) (w : World) (v : Value) (L : List Rad) : Prop :=
  L = [] ∧ (∃ a c, v = .slice a 0 c ∧ c ≤ maxLen) ∨ ∃ g G, v = .slice (some ⟨g, 0, none⟩) L.length L.length ∧ B ≤ g ∧ g < U ∧ (∀ r, r < L.length → G r < U) ∧ OwnRd w g G L
theorem OwnRs.upto {B : Nat} {w : World} {v : Value} {L : List Rad} (h : OwnRs B w v L) : OwnRsU B w.heap.size w v L := by
  rcases h with h | ⟨g, G, h1, h2, h3⟩
  · exact Or.inl h
  · exact Or.inr ⟨g, G, h1, h2, h3.1.lt, fun r hr => (h3.2.1 r hr).2.lt, h3⟩
theorem OwnRsU.inn {B U : Nat} {w : World} {v : Value} {L : List Rad} (h : OwnRsU B U w v L) (hs : L.length ≤ 1048576) (hl : ∀ i, i < L.length → (L.getD i default).2.2.length ≤ 1048576) : RadsIn w v L := by
  rcases h with ⟨rfl, a, c, rfl, hc⟩ | ⟨g, G, rfl, h2, h3, h4, h5⟩
  · exact ⟨a, c, rfl, Nat.zero_le _, hc, fun i hi => by simp at hi⟩
  · exact h5.inn hs hl
theorem OwnRsU.below {B U : Nat} {w w' : World} {v : Value} {L : List Rad} (h : OwnRsU B U w v L) (hb : Below w.heap.size w w') : OwnRsU B U w' v L := by
  rcases h with h | ⟨g, G, h1, h2, h3, h4, h5⟩
  · exact Or.inl h
  · exact Or.inr ⟨g, G, h1, h2, h3, h4, h5.step hb⟩
theorem OwnRsU.kept {T : Nat → Prop} {B U : Nat} {w w' : World} {v : Value} {L : List Rad} (h : OwnRsU B U w v L) (hk : Kept T w w') (hT : ∀ b, B ≤ b → b < U → ¬ T b) : OwnRsU B U w' v L := by
  rcases h with h | ⟨g, G, h1, h2, h3, h4, h5⟩
  · exact Or.inl h
  · refine Or.inr ⟨g, G, h1, h2, h3, h4, h5.1.kept hk (hT g h2 h3), fun r hr => ⟨(h5.2.1 r hr).1, (h5.2.1 r hr).2.kept hk (hT (G r) ?_ (h4 r hr))⟩, h5.2.2⟩
    have := (h5.2.1 r hr).1
    omega

theorem markRs_nil (ao : Option Addr) (cap : Nat) (k : Int) (w : World) :
    Calls Try.prog 42 #[.slice ao 0 cap, .int .i64 k] w fun e w' => e = .returned (.int .i64 k) ∧ w = w' := by
  go_enter Try.func42, Try.ntmps42
  go_wp2
  go_loopg [1, 5] 0 (fun _ kv iv wr => w = wr ∧ iv = .int .i64 0 ∧ kv = .int .i64 k)
  case atStart => exact ⟨rfl, rfl, rfl⟩
  case round =>
    obtain ⟨rfl, rfl, rfl⟩ := hrel
    go_wp2
    go_ret
    exact ⟨rfl, rfl⟩

theorem markRs_v (B U : Nat) (v : Value) (L : List Rad) (w : World) (h : OwnRsU B U w v L) (hs : L.length ≤ 1048576) (hl : ∀ i, i < L.length → (L.getD i default).2.2.length ≤ 1048576) :
    Calls Try.prog 42 #[v, .int .i64 1] w fun e w' => e = .returned (.int .i64 (endR L 1)) ∧ Kept (fun b => B ≤ b ∧ b < U) w w' ∧ OwnRsU B U w' v (mkR L 1) := by
  rcases h with ⟨rfl, a, c, rfl, hc⟩ | ⟨g, G, rfl, h2, h3, h4, h5⟩
  · refine (markRs_nil a c 1 w).mono ?_
    rintro e w' ⟨rfl, rfl⟩
    exact ⟨rfl, Kept.refl _ _, Or.inl ⟨rfl, a, c, rfl, hc⟩⟩
  · refine (markRadioS_any g L.length G L 1 w h5 hs hl (by omega) (by omega)).mono ?_
    rintro e w' ⟨rfl, hM⟩
    refine ⟨rfl, hM.kept.mono (fun b _ hb => ?_), Or.inr ⟨g, G, by rw [mkR_len], h2, h3, fun r hr => h4 r (by rw [mkR_len] at hr; exact hr), hM.own2⟩⟩
    rcases hb with rfl | ⟨r, hr, rfl⟩
    · exact ⟨h2, h3⟩
    · have := (h5.2.1 r hr).1
      exact ⟨by omega, h4 r hr⟩

set_option maxHeartbeats 1600000 in
theorem heldRs_v (v : Value) (L : List Rad) (w : World) (h : RadsIn w v (mkR L 1)) (hs : L.length ≤ 1048576) (hl : ∀ i, i < L.length → (L.getD i default).2.2.length ≤ 1048576) :
    Calls Try.prog 48 #[v, .int .i64 1] w fun e w' => e = .returned (.int .i64 (endR L 1)) ∧ Below w.heap.size w w' := by
  obtain ⟨ao, cap, rfl, hlc, hm, hc⟩ := h
  unfold maxLen at hm
  have HC := hide hc
  have HL := hide hl
  have HE := hide (endR_bd L hl 1)
  have hml := mkR_len L 1
  clear hc hl
  rw [hml]
  have HML := hide hml
  clear hml
  go_enter Try.func48, Try.ntmps48
  go_wp2
  go_loopg [1, 5] L.length (fun gg kv iv wr => wr = w ∧ ∃ k : Nat, k ≤ L.length ∧ gg = L.length - k ∧ iv = .int .i64 k ∧ kv = .int .i64 (endR (L.take k) 1))
  case atStart => exact ⟨rfl, 0, Nat.zero_le _, rfl, rfl, by simp [endR]⟩
  case round =>
    obtain ⟨rfl, k, hk, rfl, rfl, rfl⟩ := hrel
    have hbd := unhide HE k hk
    by_cases hkn : k < L.length
    · obtain ⟨b, o, na, nc, rfl, c0, c1, c2, hr⟩ := unhide HC k (by rw [unhide HML]; exact hkn)
      have hkl := unhide HL k hkn
      rw [mkR_get L 1 k hkn] at c0 c1 c2 hr
      dsimp only at c0 c1 c2 hr
      rw [marks_len] at c2 hr
      have hki : (k : Int) < L.length := by omega
      have HSN := hide (endR_snoc L 1 k hkn)
      obtain ⟨q, hq⟩ : ∃ q, q = endR (L.take k) 1 := ⟨_, rfl⟩
      rw [← hq] at c0 c1 hr hbd HSN ⊢
      have hq0 : 0 ≤ q := by omega
      have hq1 : q ≤ 1073741824 + 1048576 * 1048578 := by
        have : (k : Int) * 1048578 ≤ 1048576 * 1048578 := Int.mul_le_mul_of_nonneg_right (by omega) (by omega)
        omega
      have HH := hide (heldIntS_any _ _ (q + 2) _ hr (by rw [marks_len]) (by rw [marks_len]; exact hkl) (by omega) (by omega))
      rw [marks_len, show q + 2 = q + 1 + 1 by omega] at HH
      generalize (L.getD k default).2.2.length = m at *
      clear hq hr hbd
      have d0 : (q != q) = false := by simp
      have d1 : (q + 1 != q + 1) = false := by simp
      go_wp2_with fail
      refine (unhide HH).mono ?_
      rintro e w2 ⟨rfl, h9⟩
      subst h9
      clear HH
      have hneg : decide (q + 1 + 1 + (m : Int) < 0) = false := by rw [decide_eq_false_iff_not]; omega
      go_wp2
      go_roundg (L.length - (k + 1))
      case measure => omega
      case rel => exact ⟨rfl, k + 1, by omega, rfl, by go_num, by rw [unhide HSN]; congr 1; omega⟩
    · have hkk : k = L.length := by omega
      subst hkk
      rw [List.take_length]
      go_wp2
      go_ret
      exact ⟨rfl, Below.refl _ _⟩

theorem runS_same (C : List Int) : ∀ L : List Rad, (runS L C).1.length = L.length ∧ ∀ r, rHe (runS L C).1 r = rHe L r := by
  induction C with
  | nil => intro L; exact ⟨rfl, fun _ => rfl⟩
  | cons c C ih =>
    intro L
    simp only [runS]
    cases h : stepS L c with
    | none => exact ⟨rfl, fun _ => rfl⟩
    | some L' =>
      obtain ⟨h1, h2⟩ := stepS_same h
      obtain ⟨h3, h4⟩ := ih L'
      exact ⟨h3.trans h1, fun r => (h4 r).trans (h2 r)⟩
theorem settle_bd {L : List Rad} {C : List Int} (hs : L.length ≤ 1048576) (hl : ∀ i, i < L.length → (L.getD i default).2.2.length ≤ 1048576) : (settleV L C).1.length ≤ 1048576 ∧ ∀ i, i < (settleV L C).1.length → ((settleV L C).1.getD i default).2.2.length ≤ 1048576 := by
  unfold settleV
  split
  · obtain ⟨h1, h2⟩ := runS_same C L
    exact ⟨by rw [h1]; exact hs, run_lens hl h1 h2⟩
  · exact ⟨by simp, fun i hi => by simp at hi⟩

end Go.Proofs.Ytkjikjeecjendaa
