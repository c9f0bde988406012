/- Segments in memory: contracts of the laws' own eqStringSS, eqSeg, eqSegS. No statement about the program stands here. -/
import Derived.Test.YtjpogaidcmndoaaEdA
import Derived.Test.YtjpogaidcmndoaaPsA
import Derived.BigQuiet
namespace Go.Proofs.Ytjpogaidcmndoaa
open Go.RowKit

set_option maxHeartbeats 1600000 in
theorem eqStringSS_any (v v' : Value) (P : PartsT) (w : World) (h : SsIn w v P) (h' : SsIn w v' P) :
    Calls Try.prog 72 #[v, v'] w fun e w' => e = .returned (.bool true) ∧ Below w.heap.size w w' := by
  have HC := hide h
  have HC' := hide h'
  obtain ⟨ao, cap, rfl, hl, hm, -⟩ := h
  obtain ⟨ao', cap', rfl, -, -, -⟩ := h'
  unfold maxLen at hm
  go_enter Try.func72, Try.ntmps72
  go_wp2
  go_loopg [5] P.length (fun g i wr => Below w.heap.size w wr ∧ ∃ k : Nat, k ≤ P.length ∧ g = P.length - k ∧ i = .int .i64 k)
  case atStart => exact ⟨Below.refl _ _, 0, Nat.zero_le _, rfl, rfl⟩
  case round =>
    obtain ⟨hW, k, hk, rfl, rfl⟩ := hrel
    by_cases hkn : k < P.length
    · obtain ⟨b, o, na, nc, n, T, rfl, hc, hr, EX, EM, hn⟩ := (unhide HC).at hkn
      obtain ⟨b', o', na', nc', n', T', rfl, hc', hr', EX', EM', hn'⟩ := (unhide HC').at hkn
      have eT : T' = T := (unhide EX').symm.trans (unhide EX)
      subst eT
      have en : n' = n := (unhide EM').symm.trans (unhide EM)
      subst en
      have S1 := hide fun x' : Gr wr => eqStringS_o _ _ T' x'.val ((hr.below hW).below x'.ok) ((hr'.below hW).below x'.ok)
      have r0 := fun x' : Gr wr => gr_cell (wcell3 hc hW) x'
      have r0' := fun x' : Gr wr => gr_cell (wcell3 hc' hW) x'
      have HW := hide hW
      have gsome := gr_some wr
      have hki : (k : Int) < P.length := by omega
      clear hc hc' hW hr hr'
      go_wp2
      refine wp_region_grown (by kernel_rfl) (by kernel_rfl) ?_
      repeat (go_big_quiet_step (fail))
      go_big_quiet_want
      go_big_quiet_op
      go_big_quiet_call (exact calls_grown (unhide S1 _))
      repeat (go_big_quiet_step (fail))
      refine wpQuiet_nil ?_
      intro w1 hw1
      obtain ⟨z', hz⟩ := hw1
      have hb1 : Below wr.heap.size wr w1 := hz ▸ z'.ok
      clear hz gsome
      go_wp2
      go_roundg (P.length - (k + 1))
      case measure => omega
      case rel => exact ⟨Below.step (unhide HW) hb1, k + 1, by omega, rfl, by go_num⟩
    · have hki : ¬ (k : Int) < P.length := by omega
      go_wp2
      go_ret
      exact ⟨rfl, hW⟩

set_option maxHeartbeats 1600000 in
theorem eqSeg_any (t : ByteArray) (na : Option Addr) (n nc : Nat) (na' : Option Addr) (n' nc' : Nat) (P : PartsT) (w : World) (h : SsIn w (.slice na n nc) P) (h' : SsIn w (.slice na' n' nc') P) :
    Calls Try.prog 39 #[vSeg t (.slice na n nc), vSeg t (.slice na' n' nc')] w fun e w' => e = .returned (.bool true) ∧ Below w.heap.size w w' := by
  have A := Below.step (Below.alloc1 w (.cells #[.string t, .slice na n nc] 33)) (Below.alloc1 _ (.cells #[.string t, .slice na' n' nc'] 33))
  have HD := hide (h.below A)
  have HD' := hide (h'.below A)
  have HW := hide A
  have hn1 : (t.toList == t.toList) = true := by rw [txt_eq]; simp
  clear A h h'
  unfold vSeg
  go_enter Try.func39, Try.ntmps39
  go_wp2_with fail
  refine (eqStringSS_any _ _ P _ (unhide HD) (unhide HD')).mono ?_
  rintro e w1 ⟨rfl, hb⟩
  replace HW := hide (Below.step (unhide HW) hb)
  clear hb HD HD'
  go_wp2
  go_ret
  exact ⟨rfl, unhide HW⟩

set_option maxHeartbeats 1600000 in
theorem eqSegS_any (v v' : Value) (L : List SegT) (w : World) (h : SgsIn w v L) (h' : SgsIn w v' L) :
    Calls Try.prog 17 #[v, v'] w fun e w' => e = .returned (.bool true) ∧ Below w.heap.size w w' := by
  have HC := hide h
  have HC' := hide h'
  obtain ⟨ao, cap, rfl, hl, hm, -⟩ := h
  obtain ⟨ao', cap', rfl, -, -, -⟩ := h'
  unfold maxLen at hm
  go_enter Try.func17, Try.ntmps17
  go_wp2
  go_loopg [5] L.length (fun g i wr => Below w.heap.size w wr ∧ ∃ k : Nat, k ≤ L.length ∧ g = L.length - k ∧ i = .int .i64 k)
  case atStart => exact ⟨Below.refl _ _, 0, Nat.zero_le _, rfl, rfl⟩
  case round =>
    obtain ⟨hW, k, hk, rfl, rfl⟩ := hrel
    by_cases hkn : k < L.length
    · obtain ⟨b, o, na, nc, n, t, P, rfl, hc0, hc1, hr, EX, EM, hn⟩ := (unhide HC).at hkn
      obtain ⟨b', o', na', nc', n', t', P', rfl, hd0, hd1, hr', EX', EM', hn'⟩ := (unhide HC').at hkn
      have eT : (t', P') = (t, P) := (unhide EX').symm.trans (unhide EX)
      simp only [Prod.mk.injEq] at eT
      obtain ⟨rfl, rfl⟩ := eT
      have S1 := hide fun x' : Gr wr => eqSeg_any t' na n nc na' n' nc' P' x'.val ((hr.below hW).below x'.ok) ((hr'.below hW).below x'.ok)
      have r0 := fun x' : Gr wr => gr_cell (wcell3 hc0 hW) x'
      have r0' := fun x' : Gr wr => gr_cell (wcell3 hd0 hW) x'
      have r1 := fun x' : Gr wr => gr_cell (wcell3 hc1 hW) x'
      have r1' := fun x' : Gr wr => gr_cell (wcell3 hd1 hW) x'
      unfold vSeg at S1
      have HW := hide hW
      have gsome := gr_some wr
      have hki : (k : Int) < L.length := by omega
      clear hc0 hc1 hd0 hd1 hW hr hr'
      go_wp2
      refine wp_region_grown (by kernel_rfl) (by kernel_rfl) ?_
      repeat (go_big_quiet_step (fail))
      go_big_quiet_want
      go_big_quiet_op
      go_big_quiet_call (exact calls_grown (unhide S1 _))
      repeat (go_big_quiet_step (fail))
      refine wpQuiet_nil ?_
      intro w1 hw1
      obtain ⟨z', hz⟩ := hw1
      have hb1 : Below wr.heap.size wr w1 := hz ▸ z'.ok
      clear hz gsome
      go_wp2
      go_roundg (L.length - (k + 1))
      case measure => omega
      case rel => exact ⟨Below.step (unhide HW) hb1, k + 1, by omega, rfl, by go_num⟩
    · have hki : ¬ (k : Int) < L.length := by omega
      go_wp2
      go_ret
      exact ⟨rfl, hW⟩

end Go.Proofs.Ytjpogaidcmndoaa
