/- Sorting and what is twice (out of YaW). -/
import Derived.Test.YtnapggchejdcgaaRecH
import Derived.Test.YtnapggchejdcgaaCpInt
import Derived.Test.YtnapggchejdcgaaShYard
import Derived.Shelf.SortM.Plain
import Derived.Shelf.SortM.SortNone
import Derived.Shelf.Slices.CompactI
import Derived.Lib.OwnBridge
namespace Go.Proofs.Ytnapggchejdcgaa
open Go.RowKit

theorem below_grow {B : Nat} {w0 w : World} (h : Below B w0 w) (hB : B ≤ w.heap.size) (os : Array Obj) : Below B w0 (Sort.grow w os) :=
  h.trans ⟨rfl, rfl, rfl, by simp, fun k hk => Sort.heap_grow_old w os (by omega)⟩

theorem mergeS_sorted (L : List Int) : (L.mergeSort fun x y => decide (x ≤ y)).Pairwise (fun a b => a ≤ b) := by
  have := List.pairwise_mergeSort (le := fun x y : Int => decide (x ≤ y)) (fun a b c h1 h2 => by simp at *; omega) (fun a b => by simp; omega) L
  exact this.imp (fun h => of_decide_eq_true h)

theorem compact_len {S : List Int} (hs : S.Pairwise (fun a b => a ≤ b)) : decide ((Lib.compact S).length < S.length) = !decide S.Nodup := by
  have hl : (Lib.compact S).length = ((List.range S.length).filter (Lib.keeps S.toArray)).length := by simp [Lib.compact, Lib.compactUpTo]
  have hle : ((List.range S.length).filter (Lib.keeps S.toArray)).length ≤ S.length := by
    have := List.length_filter_le (Lib.keeps S.toArray) (List.range S.length)
    simpa using this
  have hiff : ((List.range S.length).filter (Lib.keeps S.toArray)).length = S.length ↔ S.Nodup := by
    have h1 : ((List.range S.length).filter (Lib.keeps S.toArray)).length = (List.range S.length).length ↔ ∀ a ∈ List.range S.length, Lib.keeps S.toArray a = true := List.length_filter_eq_length_iff
    rw [List.length_range] at h1
    rw [h1]
    constructor
    · intro h
      rw [List.pairwise_iff_getElem] at hs
      refine List.pairwise_iff_getElem.2 fun i j hi hj hij => ?_
      have hk := h j (by simpa using hj)
      have h2 := hs (j - 1) j (by omega) hj (by omega)
      have h3 : S[j] ≠ S[j - 1] := by
        simp only [Lib.keeps, decide_eq_true_eq] at hk
        rcases hk with hk | hk
        · omega
        · simpa [getElem!_pos, hj, show j - 1 < S.length by omega] using hk
      have h4 : S[i] ≤ S[j - 1] := by
        by_cases e : i = j - 1
        · subst e; omega
        · exact hs i (j - 1) hi (by omega) (by omega)
      omega
    · intro h a ha
      have ha' : a < S.length := by simpa using ha
      simp only [Lib.keeps, decide_eq_true_eq]
      by_cases e : a = 0
      · exact Or.inl e
      · refine Or.inr ?_
        have h5 := List.pairwise_iff_getElem.1 h (a - 1) a (by omega) ha' (by omega)
        simpa [getElem!_pos, ha', show a - 1 < S.length by omega] using fun e' => h5 e'.symm
  rw [hl]
  by_cases hn : S.Nodup
  · have := hiff.2 hn
    simp [hn, this]
  · have : ((List.range S.length).filter (Lib.keeps S.toArray)).length ≠ S.length := fun e => hn (hiff.1 e)
    simp [hn]; omega

set_option maxRecDepth 10000 in
set_option maxHeartbeats 1600000 in
theorem hasTwice_any (ao : Option Addr) (m cap : Nat) (xs : List Int) (w : World) (h : IntsIn w (.slice ao m cap) xs) (hm : m ≤ 1048576) :
    Calls Try.prog 48 #[.slice ao m cap] w fun e w' => e = .returned (.bool (!decide xs.Nodup)) ∧ Below w.heap.size w w' := by
  have hlen := h.len.1
  have HC := hide (ownCopyInt_any ao m cap xs w h hm)
  have HCL := hide (compact_len (mergeS_sorted xs))
  have HPM := hide (List.mergeSort_perm xs (fun x y => decide (x ≤ y)))
  clear h
  go_enter Try.func48, Try.ntmps48
  go_wp2_with fail
  refine (unhide HC).mono ?_
  rintro e w1 ⟨rfl, hO, hb⟩
  have hg : w.heap.size < w1.heap.size := hO.lt
  have HH : Hid (Sort.Holds (Value.int .i64) w1 w.heap.size 0 xs.toArray) := fun j hj => by
    have hj' : j < xs.length := by simpa using hj
    refine ⟨?_, by rw [Nat.zero_add]; exact hO.frozen j⟩
    rw [Nat.zero_add, hO.cell (ints_get xs hj')]
    simp [List.getD, hj', getElem!_pos]
  have HW1 := hide hb
  clear hO hb HC
  have HS := hide (AnyM.slices_Sort_int sortI w.heap.size 0 m xs w1 (unhide HH) hg (by omega))
  have hSl : (xs.mergeSort fun x y => decide (x ≤ y)).length = m := by rw [List.length_mergeSort, hlen]
  generalize (xs.mergeSort fun x y => decide (x ≤ y)) = T at *
  rw [hlen] at HS
  have HS' : Hid (Calls Try.prog 69 #[.slice (some ⟨w.heap.size, 0, none⟩) m m] w1 _) := unhide HS
  clear HS
  go_wp2_with fail
  refine (unhide HS').mono ?_
  rintro e w2 ⟨rfl, n, os, hw2⟩
  have HH2 : Hid (Sort.Holds (Value.int .i64) w2 w.heap.size 0 T.toArray) := by
    show Sort.Holds _ _ _ _ _
    rw [hw2]
    refine Sort.holds_grow _ _ _ _ _ _ (by simpa using hg) ?_
    exact Sort.holds_putRow _ _ _ _ xs.toArray _ (fun j hj => unhide HH j hj) (by simp [hSl, hlen])
  have HW2 : Hid (Below w.heap.size w w2) := by
    show Below _ _ _
    rw [hw2]
    exact below_grow (Lib.below_putRow (unhide HW1) (Nat.le_refl _)) (by simp; omega) os
  clear hw2 HS' HH HW1
  have HK := hide (Any.slices_Compact_int compI w.heap.size 0 m T w2 (unhide HH2) (by omega) (by omega))
  rw [hSl] at HK
  have HK' : Hid (Calls Try.prog 70 #[.slice (some ⟨w.heap.size, 0, none⟩) m m] w2 _) := unhide HK
  clear HK
  have hkl : (Lib.compact T).length ≤ m := by
    have := List.length_filter_le (Lib.keeps T.toArray) (List.range T.length)
    rw [List.length_range, hSl] at this
    simpa [Lib.compact, Lib.compactUpTo, hSl] using this
  rw [hSl] at HCL
  have HND : Hid (decide T.Nodup = decide xs.Nodup) := by
    show _ = _
    exact decide_eq_decide.2 (unhide HPM).nodup_iff
  generalize (Lib.compact T).length = c at *
  go_wp2_with fail
  refine (unhide HK').mono ?_
  rintro e w3 ⟨rfl, q, hw3⟩
  have HW3 : Hid (Below w.heap.size w w3) := by
    show Below _ _ _
    rw [hw3]
    exact Lib.below_putRow (unhide HW2) (Nat.le_refl _)
  clear hw3 HK' HH2 HW2
  have HF : Hid (decide (c < m) = !decide xs.Nodup) := by
    show _ = _
    rw [← unhide HND]
    exact unhide HCL
  clear HCL HND hlen hSl HPM
  by_cases hcm : c < m
  · have HV : Hid ((!decide xs.Nodup) = true) := by show _ = _; rw [← unhide HF]; simpa using hcm
    go_wp2
    go_ret
    exact ⟨by rw [unhide HV]; rfl, unhide HW3⟩
  · have HV : Hid ((!decide xs.Nodup) = false) := by show _ = _; rw [← unhide HF]; simpa using hcm
    go_wp2
    go_ret
    exact ⟨by rw [unhide HV]; rfl, unhide HW3⟩

end Go.Proofs.Ytnapggchejdcgaa
