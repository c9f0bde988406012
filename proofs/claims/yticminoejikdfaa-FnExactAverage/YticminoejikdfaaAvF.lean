/- Contracts of worthOf and greatestFirst. Written by wip/mkly.py. -/
import Derived.Test.YticminoejikdfaaAvE
import Derived.Test.YticminoejikdfaaAvN
import Derived.Test.YticminoejikdfaaWalkD
namespace Go.Proofs.Yticminoejikdfaa
open Go.RowKit

def worthV (L : List Int) : Int × Bool := if avG L then (smA L L.length, decide (0 < smA L L.length)) else (0, false)
theorem ret_ibA {V : Int × Bool} {x : Int} {b : Bool} (h : V = (x, b)) : (Ending.returned (.tuple #[.int .i64 x, .bool b])) = .returned (.tuple #[.int .i64 V.1, .bool V.2]) := by rw [h]
theorem smA_part {L : List Int} {k : Nat} (h : ∀ i, i < k → 0 ≤ ix L i ∧ ix L i ≤ 1000000000) (hk : k ≤ 40) : 0 ≤ smA L k ∧ smA L k ≤ 40000000000 := by
  have h1 := sumTo_bd (f := fun i => ix L i) (B := 1000000000) (n := k) (fun i hi => h i hi) k (Nat.le_refl _)
  unfold smA
  omega

set_option maxRecDepth 10000 in
set_option maxHeartbeats 2000000 in
theorem worthOf_any (v : Value) (L : List Int) (w : World) (h : IntsIn w v L) :
    Calls Try.prog 49 #[v] w fun e w' => e = .returned (.tuple #[.int .i64 (worthV L).1, .bool (worthV L).2]) ∧ w' = w := by
  obtain ⟨ao, cap, rfl, hl, hm, hc⟩ := h
  unfold maxLen at hm
  have HC := hide hc
  clear hc
  have HQ := hide fun V => within_any (L.length : Int) 1 40 V
  cases h0 : inB (L.length : Int) 1 40 with
  | false =>
    rw [h0] at HQ
    have HF : Hid (worthV L = (0, false)) := if_neg fun h => by rw [inB_mk (by have := h.1.1; omega) (by have := h.1.2; omega)] at h0; cases h0
    go_enter Try.func49, Try.ntmps49
    go_wp2_with fail
    refine (unhide HQ _).mono ?_
    rintro e w9 ⟨rfl, h9⟩
    have h8 := h9.symm
    subst h8
    clear h9
    go_wp2
    refine bodyPost_ret (v := .tuple #[.int .i64 0, .bool false]) (by simp [results, Try.results49, go_sem]) rfl ⟨ret_ibA (unhide HF), rfl⟩
  | true =>
  rw [h0] at HQ
  have hlen := inB_true h0
  have hl0 : 1 ≤ L.length := by omega
  have hl1 : L.length ≤ 40 := by omega
  clear hlen
  go_enter Try.func49, Try.ntmps49
  go_wp2_with fail
  refine (unhide HQ _).mono ?_
  rintro e w9 ⟨rfl, h9⟩
  have h8 := h9.symm
  subst h8
  clear h9
  clear HQ h0
  go_wp2
  go_loopg [4, 13] L.length (fun g sv i wr => Hid (wr = w) ∧ ∃ k : Nat, k ≤ L.length ∧ g = L.length - k ∧ i = .int .i64 k ∧ sv = .int .i64 (smA L k) ∧ Hid (∀ r, r < k → 0 ≤ ix L r ∧ ix L r ≤ 1000000000))
  case atStart => exact ⟨rfl, 0, Nat.zero_le _, rfl, rfl, rfl, fun r hr => by omega⟩
  case round =>
    obtain ⟨HW, k, hk, rfl, rfl, rfl, HD⟩ := hrel
    have hw := unhide HW
    subst hw
    clear HW
    have hsb := smA_part (unhide HD) (by omega)
    by_cases hkn : k < L.length
    · obtain ⟨b, o, rfl, g0⟩ := unhide HC k hkn
      have hki : (k : Int) < L.length := by omega
      have ES : Hid (smA L (k + 1) = smA L k + ix L k) := rfl
      have HNO : Hid (¬ (0 ≤ ix L k ∧ ix L k ≤ 1000000000) → worthV L = (0, false)) := fun h => if_neg fun h' => h (h'.2 k hkn)
      have HYES : Hid ((0 ≤ ix L k ∧ ix L k ≤ 1000000000) → ∀ r, r < k + 1 → 0 ≤ ix L r ∧ ix L r ≤ 1000000000) := fun h r hr => by
        by_cases e : r = k
        · rw [e]; exact h
        · exact unhide HD r (by omega)
      unfold ix at ES HNO HYES
      generalize L.getD k 0 = x at *
      have HQ := hide fun V => within_any x 0 1000000000 V
      generalize smA L k = sm at *
      obtain ⟨s0, s1⟩ := hsb
      cases h1 : inB x 0 1000000000
      · rw [h1] at HQ
        have HF := hide (unhide HNO (fun h => by rw [inB_mk h.1 h.2] at h1; cases h1))
        go_wp2_with fail
        refine (unhide HQ _).mono ?_
        rintro e w9 ⟨rfl, h9⟩
        have h8 := h9.symm
        subst h8
        clear h9
        go_wp2
        refine bodyPost_ret (v := .tuple #[.int .i64 0, .bool false]) (by simp [results, Try.results49, go_sem]) rfl ⟨ret_ibA (unhide HF), rfl⟩
      · rw [h1] at HQ
        have hx := inB_true h1
        obtain ⟨x0, x1⟩ := hx
        have w1 : IntKind.i64.wrap (sm + x) = sm + x := by rw [IntKind.wrap_i64]; omega
        go_wp2_with fail
        refine (unhide HQ _).mono ?_
        rintro e w9 ⟨rfl, h9⟩
        have h8 := h9.symm
        subst h8
        clear h9
        go_wp2
        go_roundg (L.length - (k + 1))
        case measure => omega
        case rel => exact ⟨rfl, k + 1, by omega, rfl, by go_num, by rw [unhide ES], unhide HYES ⟨x0, x1⟩⟩
    · obtain rfl : k = L.length := by omega
      have HF : Hid (worthV L = (smA L L.length, decide (0 < smA L L.length))) := if_pos ⟨⟨hl0, hl1⟩, unhide HD⟩
      generalize smA L L.length = sm at *
      go_wp2
      refine bodyPost_ret (v := .tuple #[.int .i64 sm, .bool (decide (0 < sm))]) (by simp [results, Try.results49, go_sem]) rfl ⟨ret_ibA (unhide HF), rfl⟩

/-- The places, the first k of them written. -/
def flP (n k : Nat) : List Int := (List.range n).map fun i => if i < k then (i : Int) else 0
theorem flP_len (n k : Nat) : (flP n k).length = n := by simp [flP]
theorem flP_zero (n : Nat) : flP n 0 = List.replicate n 0 := by unfold flP; simp [List.map_const']
theorem flP_all (n : Nat) : flP n n = plcs n := by
  unfold flP plcs
  apply List.map_congr_left
  intro i hi
  rw [if_pos (List.mem_range.1 hi)]
  rfl
theorem flP_next (n k : Nat) : flP n (k + 1) = (flP n k).set k (k : Int) := by
  apply List.ext_getElem?
  intro j
  unfold flP
  rw [List.getElem?_set]
  simp only [List.getElem?_map, List.length_map, List.length_range]
  by_cases hj : j < n
  · rw [List.getElem?_range hj]
    by_cases e : k = j
    · subst e; simp [hj]
    · rw [if_neg e]
      simp only [Option.map_some]
      congr 1
      by_cases c : j < k
      · rw [if_pos (by omega), if_pos c]
      · rw [if_neg (by omega), if_neg c]
  · rw [List.getElem?_eq_none (by simpa using hj)]
    by_cases e : k = j
    · subst e; simp [hj]
    · simp [e]
theorem made_ints (n : Nat) : (madeCells #[Value.int .i64 0] n).toList = ints (List.replicate n 0) := by
  unfold madeCells ints
  apply List.ext_getElem?
  intro i
  by_cases h : i < n
  · simp [h, Nat.mod_one]
  · simp [h]
theorem own_made (w : World) (n : Nat) (t : TypeId) : OwnV (w.alloc (.cells (madeCells #[Value.int .i64 0] n) t)) w.heap.size (ints (List.replicate n 0)) := by
  rw [← made_ints]; exact ownV_alloc w _ t
def GfAns (w : World) (r : List Int) (n : Nat) (e : Ending) (w' : World) : Prop := ∃ g P, e = .returned (.slice (some ⟨g, 0, none⟩) n n) ∧ w.heap.size ≤ g ∧ OwnV w' g (ints P) ∧ SP r n P ∧ Below w.heap.size w w'

set_option maxRecDepth 10000 in
set_option maxHeartbeats 4000000 in
theorem greatestFirst_any (gr n : Nat) (r : List Int) (w : World) (h : OwnV w gr (ints r)) (hr : r.length = n) (hn0 : 1 ≤ n) (hn : n ≤ 40) :
    Calls Try.prog 50 #[.slice (some ⟨gr, 0, none⟩) n n] w (GfAns w r n) := by
  have HR := hide hr
  have HKY := hide h
  have hgr := h.lt
  clear h hr
  have hmk := run_make_row' (P := Try.prog) 42 3 (.int .i64 0) 8 Try.underlying42 Try.info3 rfl .i64 .i64 n (by omega) (by omega)
  have HB := hide ((ownV_alloc w #[.slice (some ⟨gr, 0, none⟩) n n] 42).step (Below.alloc1 _ (.cells (madeCells #[Value.int .i64 0] n) 3)))
  have HO := hide (own_made (w.alloc (.cells #[.slice (some ⟨gr, 0, none⟩) n n] 42)) n 3)
  rw [World.size_alloc] at HO
  have HW := hide (below_alloc (Below.alloc1 w (.cells #[.slice (some ⟨gr, 0, none⟩) n n] 42)) (.cells (madeCells #[Value.int .i64 0] n) 3))
  rw [← flP_zero] at HO
  go_enter Try.func50, Try.ntmps50
  go_wp2
  clear hmk
  go_loopg [10] n (fun gg iv wr => ∃ k : Nat, k ≤ n ∧ gg = n - k ∧ iv = .int .i64 (k : Int) ∧ Hid (OwnV wr w.heap.size [.slice (some ⟨gr, 0, none⟩) n n]) ∧ Hid (OwnV wr (w.heap.size + 1) (ints (flP n k))) ∧ Hid (Below w.heap.size w wr))
  case atStart => exact ⟨0, Nat.zero_le _, rfl, rfl, HB, HO, HW⟩
  case round =>
    clear HB HO HW
    obtain ⟨k, hk, rfl, rfl, HB, HO, HW⟩ := hrel
    by_cases hkn : k < n
    · have hkI : (k : Int) < n := by omega
      have ck := (unhide HO).cell (ints_atA (M := flP n k) (p := k) (by rw [flP_len]; exact hkn))
      have fz := (unhide HO).frozen
      have HO2 : Hid (OwnV (wr.setCell ⟨w.heap.size + 1, k, none⟩ (.int .i64 (k : Int))) (w.heap.size + 1) (ints (flP n (k + 1)))) := by
        show OwnV _ _ _
        rw [flP_next, ← ints_setA]
        exact (unhide HO).set k _ (by rw [ints_length, flP_len]; exact hkn)
      have HB2 := hide ((unhide HB).other (a := ⟨w.heap.size + 1, k, none⟩) (by show w.heap.size ≠ w.heap.size + 1; omega) (.int .i64 (k : Int)))
      have HW2 := hide ((unhide HW).setCell (p := ⟨w.heap.size + 1, k, none⟩) (by show w.heap.size ≤ w.heap.size + 1; omega) (.int .i64 (k : Int)))
      generalize ix (flP n k) k = old at *
      go_wp2
      go_roundg (n - (k + 1))
      case measure => omega
      case rel => exact ⟨k + 1, by omega, rfl, by go_num, HB2, HO2, HW2⟩
    · obtain rfl : k = n := by omega
      rw [flP_all] at HO
      obtain ⟨g, eg⟩ : ∃ g, g = w.heap.size + 1 := ⟨_, rfl⟩
      have HS := hide (sortStable_any g w.heap.size gr k k k r (plcs k) wr ⟨by rw [unhide HR]; exact unhide HB, (unhide HKY).step (unhide HW), by rw [unhide HR]; exact Nat.le_refl _, by omega, by omega, by omega⟩ (by rw [eg]; exact unhide HO) (plcs_len k) hn (Nat.le_refl _) (by omega)
        (fun x hx => by obtain ⟨i, i1, i2⟩ := mem_plcs.1 hx; rw [unhide HR]; omega) (fun p q h1 h2 => by rw [ix_plcs (by omega), ix_plcs h2]; omega))
      have hgw : w.heap.size ≤ g := by omega
      have hwb := (unhide HW).size
      rw [← eg]
      clear eg
      unfold cmpF at HS
      go_wp2_with fail
      refine (unhide HS).mono ?_
      rintro e w2 ⟨rfl, ⟨E, ho, hm⟩, hk2⟩
      have HO2 := hide ho
      have HSP : Hid (SP r k E) := ⟨hm.1.perm, hm.2⟩
      have HW2 := hide ((unhide HW).trans (hk2.below hwb fun b hb => by have hb : b = g := hb; omega))
      clear ho hm hk2 HS
      go_wp2
      go_ret
      exact ⟨g, E, rfl, hgw, unhide HO2, unhide HSP, unhide HW2⟩


end Go.Proofs.Yticminoejikdfaa
