/- Radios: slots that are heard; contracts of the program's slotsHeard, has, free (atomics by their laws). -/
import Derived.Test.YtkjikjeecjendaaRdE
import Derived.Test.YtkjikjeecjendaaAppK
import Derived.Test.YtkjikjeecjendaaSgBs
import Derived.Laws.LoneSync
import Derived.Deep.RegionHeld3
namespace Go.Proofs.Ytkjikjeecjendaa
open Go.RowKit

/-- The slot of the k-th of those that the radio hears. -/
def slK (L : List Rad) (i k : Nat) : Int := rSl L ((rHe L i).getD k 0).toNat
/-- How many of the first k have the slot s. -/
def cntK (L : List Rad) (i : Nat) (s : Nat) : Nat → Int
  | 0 => 0
  | k + 1 => cntK L i s k + if slK L i k = (s : Int) then 1 else 0
theorem cntK_bd (L : List Rad) (i s k : Nat) : 0 ≤ cntK L i s k ∧ cntK L i s k ≤ k := by
  induction k with
  | zero => exact ⟨by simp [cntK], by simp [cntK]⟩
  | succ k ih => simp only [cntK]; split <;> omega
/-- One that the radio hears has the slot. -/
def Heard (L : List Rad) (i : Nat) (s : Int) : Prop := ∃ k, k < (rHe L i).length ∧ slK L i k = s
theorem cntK_pos (L : List Rad) (i s k : Nat) : 0 < cntK L i s k ↔ ∃ q, q < k ∧ slK L i q = s := by
  induction k with
  | zero => simp [cntK]
  | succ k ih =>
    simp only [cntK]
    have hb := cntK_bd L i s k
    constructor
    · intro h
      by_cases e : slK L i k = s
      · exact ⟨k, by omega, e⟩
      · rw [if_neg e] at h
        obtain ⟨q, h1, h2⟩ := ih.1 (by omega)
        exact ⟨q, by omega, h2⟩
    · rintro ⟨q, h1, h2⟩
      by_cases e : q = k
      · subst e; rw [if_pos h2]; omega
      · have := ih.2 ⟨q, by omega, h2⟩
        split <;> omega
def cnts (L : List Rad) (i k : Nat) : List Int := (List.range 20).map fun s => cntK L i s k
theorem cnts_len (L : List Rad) (i k : Nat) : (cnts L i k).length = 20 := by simp [cnts]
theorem cnts_get (L : List Rad) (i k : Nat) {s : Nat} (h : s < 20) : (cnts L i k).getD s 0 = cntK L i s k := by simp [cnts, List.getD, h]
def e32 (x : Int) : Value := .int .i32 x
theorem cnts_step (L : List Rad) (i k s : Nat) (hs : slK L i k = (s : Int)) : (cnts L i k).set s (cntK L i s k + 1) = cnts L i (k + 1) := by
  apply List.ext_getElem
  · simp [cnts]
  · intro j h1 h2
    simp only [cnts, List.length_set, List.length_map, List.length_range] at h1
    rw [List.getElem_set]
    by_cases e : s = j
    · subst e
      simp [cnts, cntK, hs]
    · have : ¬ slK L i k = (j : Int) := by omega
      simp [cnts, cntK, e, this]
theorem cell32 {w : World} {g : Nat} {M : List Int} {s : Nat} (h : OwnV w g (M.map e32)) (hs : s < M.length) : w.cell? ⟨g, s, none⟩ = some (.int .i32 (M.getD s 0)) := by
  refine h.cell ?_
  simp [e32, List.getD, List.getElem?_eq_getElem hs]

theorem len_le {H : List Int} {i n : Nat} (h : HeOk H i n) : H.length ≤ n := by
  have up : ∀ k, k < H.length → (k : Int) ≤ H.getD k 0 := by
    intro k
    induction k with
    | zero => intro hk; have := (h 0 hk).1; omega
    | succ k ih =>
      intro hk
      have h1 := ih (by omega)
      have h2 := (h (k + 1) hk).2.2.2 (by omega)
      rw [Nat.add_sub_cancel] at h2
      omega
  rcases Nat.eq_zero_or_pos H.length with h0 | h0
  · omega
  · have h1 := up (H.length - 1) (by omega)
    have h2 := (h (H.length - 1) (by omega)).2.1
    omega

set_option maxHeartbeats 800000 in
theorem add32_any (g s : Nat) (M : List Int) (w : World) (h : OwnV w g (M.map e32)) (hs : s < M.length) (hb0 : 0 ≤ M.getD s 0) (hb1 : M.getD s 0 ≤ 1000000) :
    Calls Try.prog 82 #[.pointer (some ⟨g, s, none⟩), .int .i32 1] w fun e w' => e = .returned (.int .i32 (M.getD s 0 + 1)) ∧ OwnV w' g ((M.set s (M.getD s 0 + 1)).map e32) ∧ Kept (fun b => b = g) w w' := by
  have hc := cell32 h hs
  have hz := h.frozen s
  have hN := h.set s (e32 (M.getD s 0 + 1)) (by rw [List.length_map]; exact hs)
  rw [← List.map_set] at hN
  have HK := hide ((Kept.refl (fun b => b = g) w).setCell (p := ⟨g, s, none⟩) rfl (.int .i32 (M.getD s 0 + 1)))
  have HN := hide hN
  unfold e32 at HN
  generalize M.getD s 0 = x at *
  have hadd := run_call_add (P := Try.prog) Try.func90 (by kernel_rfl) (by kernel_rfl) (by kernel_rfl) .i32 (by kernel_rfl) (y := 1) (s := x + 1) hc hz (by
    have : IntKind.i32.wrap (x + 1) = x + 1 := by rw [IntKind.wrap_i32]; omega
    simp [go_sem, this])
  clear hN h
  go_enter Try.func82, Try.ntmps82
  go_wp2
  go_ret
  exact ⟨rfl, unhide HN, unhide HK⟩

set_option maxHeartbeats 800000 in
theorem load32_any (g s : Nat) (x : Int) (w : World) (hc : w.cell? ⟨g, s, none⟩ = some (.int .i32 x)) :
    Calls Try.prog 83 #[.pointer (some ⟨g, s, none⟩)] w fun e w' => e = .returned (.int .i32 x) ∧ w' = w := by
  have hload := run_call_load (P := Try.prog) Try.func91 (by kernel_rfl) (by kernel_rfl) (by kernel_rfl) .i32 (by kernel_rfl) hc
  go_enter Try.func83, Try.ntmps83
  go_wp2
  go_ret
  exact ⟨rfl, rfl⟩

set_option maxHeartbeats 800000 in
theorem has_any (g s : Nat) (M : List Int) (w : World) (h : OwnV w g (M.map e32)) (hl : M.length = 20) (hs : s < 20) :
    Calls Try.prog 62 #[.pointer (some ⟨g, 0, none⟩), .int .i64 s] w fun e w' => e = .returned (.bool (decide (0 < M.getD s 0))) ∧ w' = w := by
  have hc := cell32 h (s := s) (by omega)
  generalize M.getD s 0 = x at *
  have HL := hide (load32_any g s x w hc)
  clear h hl hc
  go_enter Try.func62, Try.ntmps62
  go_wp2_with fail
  refine (unhide HL).mono ?_
  rintro e w' ⟨rfl, h9⟩
  have h8 := h9.symm
  subst h8
  clear h9
  go_wp2
  go_ret
  exact ⟨rfl, rfl⟩

end Go.Proofs.Ytkjikjeecjendaa
