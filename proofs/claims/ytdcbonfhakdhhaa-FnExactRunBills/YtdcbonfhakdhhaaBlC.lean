/- Bills: contracts of the specification's l9Has, l14Find. Written by wip/mkblc.py. -/
import Derived.Test.YtdcbonfhakdhhaaBlX
import Derived.Test.YtdcbonfhakdhhaaBlB
namespace Go.Proofs.Ytdcbonfhakdhhaa
open Go.RowKit

set_option maxHeartbeats 1600000 in
theorem l9Has_any (v : Value) (L : List Int) (x : Int) (w : World) (h : IntsIn w v L) :
    Calls Try.prog 41 #[v, .int .i64 x] w fun e w' => e = .returned (.bool (L.contains x)) ∧ w' = w := by
  obtain ⟨ao, cap, rfl, hl, hm, hc⟩ := h
  unfold maxLen at hm
  have HC := hide hc
  clear hc
  go_enter Try.func41, Try.ntmps41
  go_wp2
  go_loopg [5] L.length (fun g i wr => wr = w ∧ ∃ k : Nat, k ≤ L.length ∧ g = L.length - k ∧ i = .int .i64 k ∧ Hid (∀ r, r < k → L.getD r 0 ≠ x))
  case atStart => exact ⟨rfl, 0, Nat.zero_le _, rfl, rfl, fun r hr => by omega⟩
  case round =>
    obtain ⟨rfl, k, hk, rfl, rfl, HN⟩ := hrel
    by_cases hkn : k < L.length
    · obtain ⟨b, o, rfl, hcell⟩ := unhide HC k hkn
      have hki : (k : Int) < L.length := by omega
      by_cases hx : L.getD k 0 = x
      · have HT : Hid (L.contains x = true) := by
          show _ = _
          rw [List.contains_iff_mem, ← hx, getD_lt hkn]
          exact List.getElem_mem _
        rw [hx] at hcell
        clear HN
        go_wp2
        go_ret
        exact ⟨ret_bool (unhide HT).symm, rfl⟩
      · have HN' : Hid (∀ r, r < k + 1 → L.getD r 0 ≠ x) := fun r hr => by
          by_cases e : r = k
          · rw [e]; exact hx
          · exact unhide HN r (by omega)
        clear HN
        generalize L.getD k 0 = y at *
        have d1 : (y == x) = false := by simpa using hx
        go_wp2
        go_roundg (L.length - (k + 1))
        case measure => omega
        case rel => exact ⟨rfl, k + 1, by omega, rfl, by go_num, HN'⟩
    · have HF : Hid (L.contains x = false) := by
        show _ = _
        rw [Bool.eq_false_iff]
        intro hc
        rw [List.contains_iff_mem] at hc
        obtain ⟨i, hi, e⟩ := List.mem_iff_getElem.1 hc
        exact unhide HN i (by omega) (by rw [getD_lt hi]; exact e)
      have hki : ¬ (k : Int) < L.length := by omega
      clear HN
      go_wp2
      go_ret
      refine ⟨ret_bool ?_, rfl⟩
      have h := unhide HF
      rw [Bool.eq_false_iff, ne_eq, List.contains_iff_mem] at h
      first | exact (unhide HF).symm | simp [h]

set_option maxHeartbeats 1600000 in
theorem l14Find_any (bv fv : Value) (b : BkT) (id : Int) (w : World) (h : BkIn w bv fv b) :
    Calls Try.prog 39 #[vBook bv fv, .int .i64 id] w fun e w' => e = .returned (.int .i64 (fnd b.1 id)) ∧ Below w.heap.size w w' := by
  obtain ⟨L, F⟩ := b
  obtain ⟨h, hF⟩ := h
  dsimp only at h hF ⊢
  have h' := h
  obtain ⟨ao, cap, rfl, hl, hm, -⟩ := h'
  obtain ⟨fo, fcap, rfl, -⟩ := hF
  unfold maxLen at hm
  have A := Below.alloc1 w (.cells #[.slice ao L.length cap, .slice fo F.length fcap] 27)
  have O := ownV_alloc w #[.slice ao L.length cap, .slice fo F.length fcap] 27
  have HC := hide h
  have HA := hide A
  have c0 := O.cell (i := 0) rfl
  clear h A O
  unfold vBook
  go_enter Try.func39, Try.ntmps39
  go_wp2
  obtain ⟨V, eV⟩ : ∃ V, V = w.alloc (.cells #[.slice ao L.length cap, .slice fo F.length fcap] 27) := ⟨_, rfl⟩
  rw [← eV] at HA c0 ⊢
  clear eV
  generalize w.heap.size = gb at c0 ⊢
  go_loopg [5] L.length (fun g iv wr => wr = V ∧ ∃ k : Nat, k ≤ L.length ∧ g = L.length - k ∧ iv = .int .i64 k ∧ Hid (∀ r, r < k → bId L r ≠ id))
  case atStart => exact ⟨rfl, 0, Nat.zero_le _, rfl, rfl, fun r hr => by omega⟩
  case round =>
    obtain ⟨rfl, k, hk, rfl, rfl, HN⟩ := hrel
    by_cases hkn : k < L.length
    · obtain ⟨bb, o, na, nc, xi, sh, od, mn, H, m, rfl, hc0, -, -, -, -, -, EX, -, -⟩ := (unhide HC).at hkn
      have hki : (k : Int) < L.length := by omega
      have exi : bId L k = xi := by unfold bId; rw [unhide EX]
      have g0 := wcell3 hc0 (unhide HA)
      by_cases hx : xi = id
      · have HT := hide (fnd_at hkn (exi.trans hx) (unhide HN))
        subst hx
        clear HN exi
        go_wp2
        go_ret
        exact ⟨by rw [unhide HT]; rfl, unhide HA⟩
      · have HN' : Hid (∀ r, r < k + 1 → bId L r ≠ id) := fun r hr => by
          by_cases e : r = k
          · rw [e, exi]; exact hx
          · exact unhide HN r (by omega)
        clear HN exi
        have d1 : (xi == id) = false := by simpa using hx
        go_wp2
        go_roundg (L.length - (k + 1))
        case measure => omega
        case rel => exact ⟨rfl, k + 1, by omega, rfl, by go_num, HN'⟩
    · have HT := hide (fnd_none fun t ht => unhide HN t (by omega))
      clear HN
      go_wp2
      go_ret
      exact ⟨by rw [unhide HT]; rfl, unhide HA⟩

end Go.Proofs.Ytdcbonfhakdhhaa
