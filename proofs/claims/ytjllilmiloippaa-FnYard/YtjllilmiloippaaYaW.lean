/- Rows of numbers as rows of records; slices.Index, slices.Contains at []int; sorting and what is twice. -/
import Derived.Test.YtjllilmiloippaaYaB
import Derived.Test.YtjllilmiloippaaRecH
import Derived.Test.YtjllilmiloippaaCpInt
import Derived.Test.YtjllilmiloippaaShYard
import Derived.Shelf.SortM.Plain
import Derived.Shelf.SortM.SortNone
import Derived.Shelf.Slices.CompactI
import Derived.Lib.OwnBridge
namespace Go.Proofs.Ytjllilmiloippaa
open Go.RowKit

def eI (x : Int) (_ : Nat) : Value := .int .i64 x
theorem recI (L : List Int) : recCells 1 eI L = ints L := by
  apply List.ext_getElem?
  intro i
  by_cases h : i < L.length
  · simp [recCells, eI, ints, h, List.getD]
  · simp [recCells, ints, h]
theorem tyI : RecTy 30 3 1 eI := recTy_mk Try.underlying30 Try.info3 (by rfl) (by omega) (by omega) (fun _ _ _ => rfl)
theorem ints_recs {w : World} {v : Value} {F : List Int} (h : IntsIn w v F) : RecsIn 1 eI w v F := by
  obtain ⟨ao, cap, rfl, h1, h2, h3⟩ := h
  refine ⟨ao, cap, rfl, h1, h2, fun i hi => ?_⟩
  obtain ⟨b, o, e, hc⟩ := h3 i hi
  refine ⟨b, o, e, fun j hj => ?_⟩
  have : j = 0 := by omega
  subst this
  rw [Nat.mul_one, Nat.add_zero]
  first | exact hc | (rw [hc]; simp [eI, List.getD])
theorem recs_ints {w : World} {v : Value} {F : List Int} (h : RecsIn 1 eI w v F) : IntsIn w v F := by
  obtain ⟨ao, cap, rfl, h1, h2, h3⟩ := h
  refine ⟨ao, cap, rfl, h1, h2, fun i hi => ?_⟩
  obtain ⟨b, o, e, hc⟩ := h3 i hi
  refine ⟨b, o, e, ?_⟩
  have := hc 0 (by omega)
  rw [Nat.mul_one, Nat.add_zero] at this
  first | exact this | (rw [this]; simp [eI, List.getD])

/-- The place of x, or -1. -/
def idxV (L : List Int) (x : Int) : Int := if x ∈ L then ((L.idxOf x : Nat) : Int) else -1

set_option maxHeartbeats 1600000 in
theorem slIndex_any (v : Value) (L : List Int) (x : Int) (w : World) (h : IntsIn w v L) :
    Calls Try.prog 45 #[v, .int .i64 x] w fun e w' => e = .returned (.int .i64 (idxV L x)) ∧ w = w' := by
  obtain ⟨ao, cap, rfl, hl, hm, hc⟩ := h
  unfold maxLen at hm
  have HC := hide hc
  clear hc
  go_enter Try.func45, Try.ntmps45
  go_wp2
  go_loopg [8] L.length (fun g i wr => w = wr ∧ ∃ k : Nat, k ≤ L.length ∧ g = L.length - k ∧ i = .int .i64 k ∧ Hid (∀ r, r < k → L.getD r 0 ≠ x))
  case atStart => exact ⟨rfl, 0, Nat.zero_le _, rfl, rfl, fun r hr => by omega⟩
  case round =>
    obtain ⟨rfl, k, hk, rfl, rfl, HN⟩ := hrel
    by_cases hkn : k < L.length
    · obtain ⟨b, o, rfl, hcell⟩ := unhide HC k hkn
      have hki : (k : Int) < L.length := by omega
      by_cases hx : L.getD k 0 = x
      · have HT : Hid (idxV L x = (k : Int)) := by
          show _ = _
          unfold idxV
          rw [if_pos (mem_at.2 ⟨k, hkn, hx⟩), idx_at hkn hx (unhide HN)]
        rw [hx] at hcell
        clear HN
        go_wp2
        go_ret
        exact ⟨by rw [unhide HT]; rfl, rfl⟩
      · have HN' : Hid (∀ r, r < k + 1 → L.getD r 0 ≠ x) := fun r hr => by
          by_cases e : r = k
          · rw [e]; exact hx
          · exact unhide HN r (by omega)
        clear HN
        generalize L.getD k 0 = y at *
        have d1 : (x == y) = false := by simp; omega
        go_wp2
        go_roundg (L.length - (k + 1))
        case measure => omega
        case rel => exact ⟨rfl, k + 1, by omega, rfl, by go_num, HN'⟩
    · have HF : Hid (idxV L x = -1) := by
        show _ = _
        unfold idxV
        rw [if_neg fun hc => by
          obtain ⟨i, hi, e⟩ := mem_at.1 hc
          exact unhide HN i (by omega) e]
      have hki : ¬ (k : Int) < L.length := by omega
      clear HN
      go_wp2
      go_ret
      exact ⟨by rw [unhide HF]; rfl, rfl⟩

theorem slContains_any (v : Value) (L : List Int) (x : Int) (w : World) (h : IntsIn w v L) :
    Calls Try.prog 90 #[v, .int .i64 x] w fun e w' => e = .returned (.bool (decide (x ∈ L))) ∧ w = w' := by
  have HI := hide (slIndex_any v L x w h)
  clear h
  go_enter Try.func90, Try.ntmps90
  go_wp2_with fail
  refine (unhide HI).mono ?_
  rintro e w' ⟨rfl, rfl⟩
  have HR : Hid (decide (0 ≤ idxV L x) = decide (x ∈ L)) := by
    show _ = _
    by_cases hm : x ∈ L <;> simp [idxV, hm]
  clear HI
  generalize idxV L x = r at *
  go_wp2
  go_ret
  exact ⟨ret_bool (unhide HR), rfl⟩

theorem below_grow {B : Nat} {w0 w : World} (h : Below B w0 w) (hB : B ≤ w.heap.size) (os : Array Obj) : Below B w0 (Sort.grow w os) :=
  h.trans ⟨rfl, rfl, rfl, by simp, fun k hk => Sort.heap_grow_old w os (by omega)⟩

theorem mergeS_sorted (L : List Int) : (L.mergeSort fun x y => decide (x ≤ y)).Pairwise (fun a b => a ≤ b) := by
  have := List.pairwise_mergeSort (le := fun x y : Int => decide (x ≤ y)) (fun a b c h1 h2 => by simp at *; omega) (fun a b => by simp; omega) L
  exact this.imp (fun h => of_decide_eq_true h)

theorem compact_len {S : List Int} (hs : S.Pairwise (fun a b => a ≤ b)) : decide ((Lib.compact S).length < S.length) = !decide S.Nodup := by
  have hl : (Lib.compact S).length = ((List.range S.length).filter (Lib.keeps S.toArray)).length := by simp [Lib.compact, Lib.compactUpTo]
  have hle : ((List.range S.length).filter (Lib.keeps S.toArray)).length ≤ S.length := by
    have := List.length_filter_le (Lib.keeps S.toArray) (List.range S.length)
    simpa using this
  have hiff : ((List.range S.length).filter (Lib.keeps S.toArray)).length = S.length ↔ S.Nodup := by
    have h1 : ((List.range S.length).filter (Lib.keeps S.toArray)).length = (List.range S.length).length ↔ ∀ a ∈ List.range S.length, Lib.keeps S.toArray a = true := List.length_filter_eq_length_iff
    rw [List.length_range] at h1
    rw [h1]
    constructor
    · intro h
      rw [List.pairwise_iff_getElem] at hs
      refine List.pairwise_iff_getElem.2 fun i j hi hj hij => ?_
      have hk := h j (by simpa using hj)
      have h2 := hs (j - 1) j (by omega) hj (by omega)
      have h3 : S[j] ≠ S[j - 1] := by
        simp only [Lib.keeps, decide_eq_true_eq] at hk
        rcases hk with hk | hk
        · omega
        · simpa [getElem!_pos, hj, show j - 1 < S.length by omega] using hk
      have h4 : S[i] ≤ S[j - 1] := by
        by_cases e : i = j - 1
        · subst e; omega
        · exact hs i (j - 1) hi (by omega) (by omega)
      omega
    · intro h a ha
      have ha' : a < S.length := by simpa using ha
      simp only [Lib.keeps, decide_eq_true_eq]
      by_cases e : a = 0
      · exact Or.inl e
      · refine Or.inr ?_
        have h5 := List.pairwise_iff_getElem.1 h (a - 1) a (by omega) ha' (by omega)
        simpa [getElem!_pos, ha', show a - 1 < S.length by omega] using fun e' => h5 e'.symm
  rw [hl]
  by_cases hn : S.Nodup
  · have := hiff.2 hn
    simp [hn, this]
  · have : ((List.range S.length).filter (Lib.keeps S.toArray)).length ≠ S.length := fun e => hn (hiff.1 e)
    simp [hn]; omega

set_option maxRecDepth 10000 in
set_option maxHeartbeats 1600000 in
theorem hasTwice_any (ao : Option Addr) (m cap : Nat) (xs : List Int) (w : World) (h : IntsIn w (.slice ao m cap) xs) (hm : m ≤ 1048576) :
    Calls Try.prog 53 #[.slice ao m cap] w fun e w' => e = .returned (.bool (!decide xs.Nodup)) ∧ Below w.heap.size w w' := by
  have hlen := h.len.1
  have HC := hide (ownCopyInt_any ao m cap xs w h hm)
  have HCL := hide (compact_len (mergeS_sorted xs))
  have HPM := hide (List.mergeSort_perm xs (fun x y => decide (x ≤ y)))
  clear h
  go_enter Try.func53, Try.ntmps53
  go_wp2_with fail
  refine (unhide HC).mono ?_
  rintro e w1 ⟨rfl, hO, hb⟩
  have hg : w.heap.size < w1.heap.size := hO.lt
  have HH : Hid (Sort.Holds (Value.int .i64) w1 w.heap.size 0 xs.toArray) := fun j hj => by
    have hj' : j < xs.length := by simpa using hj
    refine ⟨?_, by rw [Nat.zero_add]; exact hO.frozen j⟩
    rw [Nat.zero_add, hO.cell (ints_get xs hj')]
    simp [List.getD, hj', getElem!_pos]
  have HW1 := hide hb
  clear hO hb HC
  have HS := hide (AnyM.slices_Sort_int sortI w.heap.size 0 m xs w1 (unhide HH) hg (by omega))
  have hSl : (xs.mergeSort fun x y => decide (x ≤ y)).length = m := by rw [List.length_mergeSort, hlen]
  generalize (xs.mergeSort fun x y => decide (x ≤ y)) = T at *
  rw [hlen] at HS
  have HS' : Hid (Calls Try.prog 87 #[.slice (some ⟨w.heap.size, 0, none⟩) m m] w1 _) := unhide HS
  clear HS
  go_wp2_with fail
  refine (unhide HS').mono ?_
  rintro e w2 ⟨rfl, n, os, hw2⟩
  have HH2 : Hid (Sort.Holds (Value.int .i64) w2 w.heap.size 0 T.toArray) := by
    show Sort.Holds _ _ _ _ _
    rw [hw2]
    refine Sort.holds_grow _ _ _ _ _ _ (by simpa using hg) ?_
    exact Sort.holds_putRow _ _ _ _ xs.toArray _ (fun j hj => unhide HH j hj) (by simp [hSl, hlen])
  have HW2 : Hid (Below w.heap.size w w2) := by
    show Below _ _ _
    rw [hw2]
    exact below_grow (Lib.below_putRow (unhide HW1) (Nat.le_refl _)) (by simp; omega) os
  clear hw2 HS' HH HW1
  have HK := hide (Any.slices_Compact_int compI w.heap.size 0 m T w2 (unhide HH2) (by omega) (by omega))
  rw [hSl] at HK
  have HK' : Hid (Calls Try.prog 88 #[.slice (some ⟨w.heap.size, 0, none⟩) m m] w2 _) := unhide HK
  clear HK
  have hkl : (Lib.compact T).length ≤ m := by
    have := List.length_filter_le (Lib.keeps T.toArray) (List.range T.length)
    rw [List.length_range, hSl] at this
    simpa [Lib.compact, Lib.compactUpTo, hSl] using this
  rw [hSl] at HCL
  have HND : Hid (decide T.Nodup = decide xs.Nodup) := by
    show _ = _
    exact decide_eq_decide.2 (unhide HPM).nodup_iff
  generalize (Lib.compact T).length = c at *
  go_wp2_with fail
  refine (unhide HK').mono ?_
  rintro e w3 ⟨rfl, q, hw3⟩
  have HW3 : Hid (Below w.heap.size w w3) := by
    show Below _ _ _
    rw [hw3]
    exact Lib.below_putRow (unhide HW2) (Nat.le_refl _)
  clear hw3 HK' HH2 HW2
  have HF : Hid (decide (c < m) = !decide xs.Nodup) := by
    show _ = _
    rw [← unhide HND]
    exact unhide HCL
  clear HCL HND hlen hSl HPM
  by_cases hcm : c < m
  · have HV : Hid ((!decide xs.Nodup) = true) := by show _ = _; rw [← unhide HF]; simpa using hcm
    go_wp2
    go_ret
    exact ⟨by rw [unhide HV]; rfl, unhide HW3⟩
  · have HV : Hid ((!decide xs.Nodup) = false) := by show _ = _; rw [← unhide HF]; simpa using hcm
    go_wp2
    go_ret
    exact ⟨by rw [unhide HV]; rfl, unhide HW3⟩

end Go.Proofs.Ytjllilmiloippaa
