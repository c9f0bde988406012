/- Contracts of the laws' own helpers over yards: szYard, toYard, eqYard, markYard, heldYard. -/
import Derived.Test.YtjllilmiloippaaOwnHull
namespace Go.Proofs.Ytjllilmiloippaa
open Go.RowKit

/-- A yard's value: its two fields. -/
abbrev yardV (high : Int) (v : Value) : Value := .agg #[.int .i64 high, v]

set_option maxHeartbeats 400000 in
theorem szYard_any (high : Int) (v : Value) (R : List (List Int)) (w : World) (h : RowsIn w v R) :
    Calls Try.prog 22 #[yardV high v, .int .i64 1048576] w fun e w' => ∃ r, e = .returned (.int .i64 r) ∧ Sized R r ∧ Below w.heap.size w w' := by
  have H := hide fun W (hb : Below w.heap.size w W) => szIntSS_any v R W (h.below hb)
  obtain ⟨ao, cap, rfl, hl, hm, _⟩ := h
  unfold yardV
  generalize R.length = n at *
  clear hl hm
  go_enter Try.func22, Try.ntmps22
  go_wp2_with fail
  refine (unhide H _ ((Below.refl _ _).alloc (Nat.le_refl _) _)).mono ?_
  rintro e w' ⟨r, rfl, hs, rfl⟩
  have hs' := hide hs
  obtain ⟨h1, h2, _⟩ := hs
  by_cases hneg : r < 0
  · go_wp2
    go_ret
    exact ⟨_, rfl, ⟨by omega, by omega, fun h => by omega⟩, (Below.refl _ _).alloc (Nat.le_refl _) _⟩
  · go_wp2
    go_ret
    exact ⟨_, rfl, unhide hs', (Below.refl _ _).alloc (Nat.le_refl _) _⟩

set_option maxHeartbeats 400000 in
theorem toYard_any (high : Int) (v : Value) (R : List (List Int)) (w : World) (h : RowsIn w v R) (hs : R.length ≤ 1048576) (hl : ∀ i, i < R.length → (R.getD i []).length ≤ 1048576) :
    Calls Try.prog 24 #[yardV high v] w fun e w' => ∃ g G C, e = .returned (yardV high (.slice (some ⟨g, 0, none⟩) R.length R.length)) ∧ OwnRows w.heap.size w' g G C R ∧ Below w.heap.size w w' := by
  have H := hide fun W (hb : Below w.heap.size w W) => toIntSS_any v R W (h.below hb) hs hl
  clear hs hl
  obtain ⟨ao, cap, rfl, _, _, _⟩ := h
  unfold yardV
  go_enter Try.func24, Try.ntmps24
  go_wp2_with fail
  refine (unhide H _ ?_).mono ?_
  · exact (((Below.refl _ _).alloc (Nat.le_refl _) _).alloc (by simp) _).alloc (by simp; omega) _
  rintro e w1 ⟨g, G, C, rfl, ho, hb⟩
  have HO := hide ho
  have HB := hide hb
  obtain ⟨hc, hf⟩ := bcell hb
  have hz : w.heap.size + 1 + 1 < w1.heap.size := by have := hb.size; simp at this; omega
  clear ho hb
  go_wp2
  refine bodyPost_ret (v := .agg #[.int .i64 high, .slice (some ⟨g, 0, none⟩) R.length R.length]) (by simp [results, Try.results24, go_sem, hc]) rfl ⟨g, G, C, rfl, ?_, ?_⟩
  · exact ((((unhide HO).setBelow (by simp) _).setBelow (by simp) _).setBelow (by simp) _).mono (by simp; omega)
  · exact ((((((((Below.refl _ _).alloc (Nat.le_refl _) _).alloc (by simp) _).alloc (by simp; omega) _).trans ((unhide HB).mono (by simp; omega))).setCell (by simp; omega) _).setCell (by simp) _).setCell (by simp) _)

set_option maxHeartbeats 400000 in
theorem eqYard_any (high : Int) (v v' : Value) (R : List (List Int)) (w : World) (h : RowsIn w v R) (h' : RowsIn w v' R) :
    Calls Try.prog 25 #[yardV high v, yardV high v'] w fun e w' => e = .returned (.bool true) ∧ Below w.heap.size w w' := by
  have H := hide fun W (hb : Below w.heap.size w W) => eqIntSS_any v v' R W (h.below hb) (h'.below hb)
  obtain ⟨ao, cap, rfl, _, _, _⟩ := h
  obtain ⟨ao', cap', rfl, _, _, _⟩ := h'
  unfold yardV
  go_enter Try.func25, Try.ntmps25
  go_wp2_with fail
  refine (unhide H _ ?_).mono ?_
  · exact ((Below.refl _ _).alloc (Nat.le_refl _) _).alloc (by simp) _
  rintro e w1 ⟨rfl, n, rfl⟩
  go_wp2
  go_ret
  exact ⟨rfl, below_drewN (((Below.refl _ _).alloc (Nat.le_refl _) _).alloc (by simp) _) n⟩

set_option maxHeartbeats 800000 in
theorem markYard_any (high : Int) (B g cap : Nat) (G C : Nat → Nat) (R : List (List Int)) (k : Int) (w : World) (h : OwnRows B w g G C R) (hn : R.length ≤ 1048576) (hl : ∀ i, i < R.length → (R.getD i []).length ≤ 1048576) (hk0 : 0 ≤ k) (hk1 : k ≤ 1048576) :
    Calls Try.prog 29 #[yardV high (.slice (some ⟨g, 0, none⟩) R.length cap), .int .i64 k] w fun e w' => e = .returned (.int .i64 (k + pre R R.length)) ∧ Kept (fun b => ∃ r, r < R.length ∧ b = G r) w w' ∧ OwnRows B w' g G C (mrows k R) := by
  unfold yardV
  have A1 := Below.alloc1 w (.cells #[.int .i64 high, .slice (some ⟨g, 0, none⟩) R.length cap] 26)
  have HM := hide (markIntSS_any B g cap G C R k _ (h.below A1) hn hl hk0 hk1)
  have HA := hide A1
  clear h hl A1
  go_enter Try.func29, Try.ntmps29
  go_wp2_with fail
  refine (unhide HM).mono ?_
  rintro e w1 ⟨rfl, hk, ho⟩
  have HK := hide hk
  have HO := hide ho
  clear hk ho HM
  go_wp2
  go_ret
  exact ⟨rfl, (kept_of_below (unhide HA)).trans (unhide HK), unhide HO⟩

set_option maxHeartbeats 800000 in
theorem heldYard_any (high : Int) (v : Value) (R : List (List Int)) (k : Int) (w : World) (h : RowsIn w v R) (hx : ∀ r, r < R.length → R.getD r [] = marks (k + (pre R r : Int)) (R.getD r []).length) (hn : R.length ≤ 1048576) (hl : ∀ i, i < R.length → (R.getD i []).length ≤ 1048576) (hk0 : 0 ≤ k) (hk1 : k ≤ 1048576) :
    Calls Try.prog 30 #[yardV high v, .int .i64 k] w fun e w' => e = .returned (.int .i64 (k + pre R R.length)) ∧ Below w.heap.size w w' := by
  have HH := hide h
  obtain ⟨ao, cap, rfl, _, _, _⟩ := h
  unfold yardV
  have A1 := Below.alloc1 w (.cells #[.int .i64 high, .slice ao R.length cap] 26)
  have HM := hide (heldIntSS_any _ R k _ ((unhide HH).below A1) hx hn hl hk0 hk1)
  have HA := hide A1
  have hp := pre_le hl R.length (Nat.le_refl _)
  clear hl hx A1
  go_enter Try.func30, Try.ntmps30
  go_wp2_with fail
  refine (unhide HM).mono ?_
  rintro e w1 ⟨rfl, hw⟩
  have HW : Hid (Below w.heap.size w w1) := by show Below _ _ _; rw [← hw]; exact unhide HA
  clear hw HM
  go_wp2
  go_ret
  exact ⟨rfl, unhide HW⟩

set_option maxHeartbeats 800000 in
theorem markYard_v (high : Int) (B U : Nat) (ao : Option Addr) (n cap : Nat) (R : List (List Int)) (w : World) (h : OwnRowsU B U w (.slice ao n cap) R) (hn : R.length ≤ 1048576) (hl : ∀ i, i < R.length → (R.getD i []).length ≤ 1048576) :
    Calls Try.prog 29 #[yardV high (.slice ao n cap), .int .i64 1] w fun e w' => e = .returned (.int .i64 (1 + pre R R.length)) ∧ Kept (fun b => B ≤ b ∧ b < U) w w' ∧ OwnRowsU B U w' (.slice ao n cap) (mrows 1 R) := by
  rcases h with ⟨rfl, hv⟩ | ⟨g, G, C, cap', hv, h1, h2, h3, h4, h5⟩
  · simp only [Value.slice.injEq] at hv
    obtain ⟨rfl, rfl, rfl⟩ := hv
    unfold yardV
    have HA := hide (Below.alloc1 w (.cells #[.int .i64 high, .slice none 0 0] 26))
    clear hl hn
    go_enter Try.func29, Try.ntmps29
    go_wp2_with fail
    refine (markIntSS_nil _).mono ?_
    rintro e w' ⟨rfl, rfl⟩
    go_wp2
    go_ret
    exact ⟨rfl, kept_of_below (unhide HA), Or.inl ⟨rfl, rfl⟩⟩
  · simp only [Value.slice.injEq] at hv
    obtain ⟨rfl, rfl, rfl⟩ := hv
    refine (markYard_any high B g cap G C R 1 w h3 hn hl (by omega) (by omega)).mono ?_
    rintro e w' ⟨rfl, hk, ho⟩
    exact ⟨rfl, hk.mono (fun b _ ⟨r, hr, e⟩ => by rw [e]; exact ⟨(h3.above r hr).1, h5 r hr⟩), Or.inr ⟨g, G, C, cap, by rw [mrows_len], by rw [mrows_len]; exact h1, h2, ho, h4, fun r hr => h5 r (by rwa [mrows_len] at hr)⟩⟩

theorem heldYard_v (high : Int) (v : Value) (M : List (List Int)) (W : World) (hW : RowsIn W v (mrows 1 M)) (hn : M.length ≤ 1048576) (hl : ∀ i, i < M.length → (M.getD i []).length ≤ 1048576) :
    Calls Try.prog 30 #[yardV high v, .int .i64 1] W fun e w' => e = .returned (.int .i64 (1 + (pre M M.length : Int))) ∧ Below W.heap.size W w' := by
  have := heldYard_any high _ (mrows 1 M) 1 W hW (mrows_held 1 M) (by rw [mrows_len]; exact hn) (fun i hi => by rw [mrows_len] at hi; rw [mrows_row 1 M hi]; exact hl i hi) (by omega) (by omega)
  rw [pre_mrows 1 M (by rw [mrows_len]; exact Nat.le_refl _), mrows_len] at this
  exact this

end Go.Proofs.Ytjllilmiloippaa
