/- The contract of inTurn: the places of the calls in order of From. -/
import Derived.Test.YtogoknldhimgfaaBvE
import Derived.Test.YtogoknldhimgfaaQyN
import Derived.Test.YtogoknldhimgfaaOwnInts
namespace Go.Proofs.Ytogoknldhimgfaa
open Go.RowKit

/-- The places, the first k of them written. -/
def flP (n k : Nat) : List Int := (List.range n).map fun i => if i < k then (i : Int) else 0
theorem flP_len (n k : Nat) : (flP n k).length = n := by simp [flP]
theorem flP_zero (n : Nat) : flP n 0 = List.replicate n 0 := by unfold flP; simp [List.map_const']
theorem flP_all (n : Nat) : flP n n = plcs n := by
  unfold flP plcs
  apply List.map_congr_left
  intro i hi
  rw [if_pos (List.mem_range.1 hi)]
  rfl
theorem flP_next (n k : Nat) : flP n (k + 1) = (flP n k).set k (k : Int) := by
  apply List.ext_getElem?
  intro j
  unfold flP
  rw [List.getElem?_set]
  simp only [List.getElem?_map, List.length_map, List.length_range]
  by_cases hj : j < n
  · rw [List.getElem?_range hj]
    by_cases e : k = j
    · subst e; simp [hj]
    · rw [if_neg e]
      simp only [Option.map_some]
      congr 1
      by_cases c : j < k
      · rw [if_pos (by omega), if_pos c]
      · rw [if_neg (by omega), if_neg c]
  · rw [List.getElem?_eq_none (by simpa using hj)]
    by_cases e : k = j
    · subst e; simp [hj]
    · simp [e]
theorem made_ints (n : Nat) : (madeCells #[Value.int .i64 0] n).toList = ints (List.replicate n 0) := by
  unfold madeCells ints
  apply List.ext_getElem?
  intro i
  by_cases h : i < n
  · simp [h, Nat.mod_one]
  · simp [h]
theorem own_made (w : World) (n : Nat) (t : TypeId) : OwnV (w.alloc (.cells (madeCells #[Value.int .i64 0] n) t)) w.heap.size (ints (List.replicate n 0)) := by
  rw [← made_ints]; exact ownV_alloc w _ t
def TnAns (w : World) (L : List CallT) (e : Ending) (w' : World) : Prop := ∃ g E, e = .returned (.slice (some ⟨g, 0, none⟩) L.length L.length) ∧ w.heap.size ≤ g ∧ OwnV w' g (ints E) ∧ Turn L E ∧ Below w.heap.size w w'

set_option maxRecDepth 10000 in
set_option maxHeartbeats 4000000 in
theorem inTurn_any (ao : Option Addr) (m cap : Nat) (L : List CallT) (w : World) (h : RCall w (.slice ao m cap) L) (hn : L.length ≤ 24) :
    Calls Try.prog 56 #[.slice ao m cap] w (TnAns w L) := by
  have hml : m = L.length := by
    obtain ⟨_, _, e, _⟩ := h
    simp only [Value.slice.injEq] at e
    exact e.2.1
  have HBK : Hid (0 < L.length → ∀ b o, ao = some ⟨b, o, none⟩ → b < w.heap.size) := fun h0 b o e => by
    obtain ⟨ao', cap', e', _, _, hc⟩ := h
    simp only [Value.slice.injEq] at e'
    obtain ⟨rfl, -, -⟩ := e'
    obtain ⟨b', o', e2, hx⟩ := hc 0 h0
    rw [e] at e2
    simp only [Option.some.injEq, Addr.mk.injEq, and_true] at e2
    obtain ⟨rfl, -⟩ := e2
    exact lt_of_cell (hx 0 (by omega))
  have HR := hide fun V (hV : Below w.heap.size w V) => h.below hV
  rw [hml] at HR ⊢
  clear h hml
  have HKL : Hid ((kyL L).length = L.length) := by show _ = _; rw [List.length_map]
  have HKL2 : Hid (kyL L = L.map fun c => - c.2.2.1) := rfl
  have HTN : Hid (∀ E, Mgd (kyL L) (plcs L.length) 0 L.length E → Turn L E) := fun E hm => ⟨hm.1.perm, hm.2⟩
  unfold TnAns
  generalize hT : Turn L = TL at *
  clear hT
  generalize hK : kyL L = r at *
  clear hK
  generalize L.length = n at *
  have hmk := run_make_row' (P := Try.prog) 48 3 (.int .i64 0) 8 Try.underlying48 Try.info3 rfl .i64 .i64 n (by omega) (by omega)
  have HB := hide ((ownV_alloc w #[.slice ao n cap] 24).step (Below.alloc1 _ (.cells (madeCells #[Value.int .i64 0] n) 3)))
  have HO := hide (own_made (w.alloc (.cells #[.slice ao n cap] 24)) n 3)
  rw [World.size_alloc] at HO
  have HW := hide (below_alloc (Below.alloc1 w (.cells #[.slice ao n cap] 24)) (.cells (madeCells #[Value.int .i64 0] n) 3))
  rw [← flP_zero] at HO
  go_enter Try.func56, Try.ntmps56
  go_wp2
  clear hmk
  go_loopg [10] n (fun gg iv wr => ∃ k : Nat, k ≤ n ∧ gg = n - k ∧ iv = .int .i64 (k : Int) ∧ Hid (OwnV wr w.heap.size [.slice ao n cap]) ∧ Hid (OwnV wr (w.heap.size + 1) (ints (flP n k))) ∧ Hid (Below w.heap.size w wr))
  case atStart => exact ⟨0, Nat.zero_le _, rfl, rfl, HB, HO, HW⟩
  case round =>
    clear HB HO HW
    obtain ⟨k, hk, rfl, rfl, HB, HO, HW⟩ := hrel
    by_cases hkn : k < n
    · have hkI : (k : Int) < n := by omega
      have ck := (unhide HO).cell (ints_atA (M := flP n k) (p := k) (by rw [flP_len]; exact hkn))
      have fz := (unhide HO).frozen
      have HO2 : Hid (OwnV (wr.setCell ⟨w.heap.size + 1, k, none⟩ (.int .i64 (k : Int))) (w.heap.size + 1) (ints (flP n (k + 1)))) := by
        show OwnV _ _ _
        rw [flP_next, ← ints_setA]
        exact (unhide HO).set k _ (by rw [ints_length, flP_len]; exact hkn)
      have HB2 := hide ((unhide HB).other (a := ⟨w.heap.size + 1, k, none⟩) (by show w.heap.size ≠ w.heap.size + 1; omega) (.int .i64 (k : Int)))
      have HW2 := hide ((unhide HW).setCell (p := ⟨w.heap.size + 1, k, none⟩) (by show w.heap.size ≤ w.heap.size + 1; omega) (.int .i64 (k : Int)))
      generalize ix (flP n k) k = old at *
      go_wp2
      go_roundg (n - (k + 1))
      case measure => omega
      case rel => exact ⟨k + 1, by omega, rfl, by go_num, HB2, HO2, HW2⟩
    · obtain rfl : k = n := by omega
      rw [flP_all] at HO
      obtain ⟨g, eg⟩ : ∃ g, g = w.heap.size + 1 := ⟨_, rfl⟩
      have hws := (unhide HW).size
      have HS := hide (sortStable_any g w.heap.size 0 cap k k r (plcs k) wr ⟨⟨ao, L, by rw [unhide HKL]; exact unhide HB, by rw [unhide HKL]; exact unhide HR wr (unhide HW), unhide HKL2, fun h0 b o e => by
          have h9 := unhide HBK (by rw [← unhide HKL]; exact h0) b o e
          exact ⟨by omega, by omega⟩, rfl⟩, by omega⟩ (by rw [eg]; exact unhide HO) (plcs_len k) (by omega) (Nat.le_refl _) (by omega)
        (fun x hx => by obtain ⟨i, i1, i2⟩ := mem_plcs.1 hx; rw [unhide HKL]; omega) (fun p q h1 h2 => by rw [ix_plcs (by omega), ix_plcs h2]; omega))
      have hgw : w.heap.size ≤ g := by omega
      have hwb := (unhide HW).size
      rw [← eg]
      clear eg
      unfold cmpF at HS
      go_wp2_with fail
      refine (unhide HS).mono ?_
      rintro e w2 ⟨rfl, ⟨E, ho, hm⟩, hk2⟩
      have HO2 := hide ho
      have HSP : Hid (TL E) := unhide HTN E hm
      have HW2 := hide ((unhide HW).trans (hk2.below hwb fun b hb => by have hb : b = g := hb; omega))
      clear ho hm hk2 HS
      go_wp2
      go_ret
      exact ⟨g, E, rfl, hgw, unhide HO2, unhide HSP, unhide HW2⟩

end Go.Proofs.Ytogoknldhimgfaa
