/- Contract of container/heap's Pop over the program's frontier. -/
import Derived.Test.YtdpcacfgbjllhaaHpF
namespace Go.Proofs.Ytdpcacfgbjllhaa
open Go.RowKit

theorem lenR_any (ao : Option Addr) (n cap : Nat) (w : World) : Calls Try.prog 33 #[.slice ao n cap] w fun e w' => e = .returned (.int .i64 (n : Int)) ∧ w = w' := by
  go_enter Try.func33, Try.ntmps33
  go_wp2
  go_ret
  exact ⟨rfl, rfl⟩
theorem take_mem {L : List Rc} {n : Nat} (hl : n + 1 = L.length) (x : Rc) : x ∈ L ↔ x ∈ L.take n ∨ x = L.getD n (0, 0) := by
  have e : L = L.take n ++ [L.getD n (0, 0)] := by
    apply List.ext_getElem?
    intro r
    by_cases h : r < n
    · rw [List.getElem?_append_left (by rw [List.length_take]; omega), List.getElem?_take, if_pos h]
    · by_cases h2 : r = n
      · subst h2
        rw [List.getElem?_append_right (by rw [List.length_take]; omega), List.length_take, show r - min r L.length = 0 by omega, getD_lt (show r < L.length by omega), List.getElem?_eq_getElem (show r < L.length by omega)]
        rfl
      · rw [List.getElem?_eq_none (by omega), List.getElem?_eq_none (by rw [List.length_append, List.length_take]; simp; omega)]
  constructor
  · intro h
    rw [e] at h
    rcases List.mem_append.1 h with h | h
    · exact Or.inl h
    · exact Or.inr (by simpa using h)
  · intro h
    rw [e]
    rcases h with h | h
    · exact List.mem_append.2 (Or.inl h)
    · exact List.mem_append.2 (Or.inr (by simp [h]))
theorem Hp.take {L : List Rc} {n : Nat} (h : Hp L n) : Hp (L.take n) n := by
  intro c h0 hc
  have e : ∀ k, k < n → (L.take n).getD k (0, 0) = L.getD k (0, 0) := fun k hk => by rw [List.getD_eq_getElem?_getD, List.getElem?_take, if_pos hk, List.getD_eq_getElem?_getD]
  rw [e c hc, e _ (by omega)]
  exact h c h0 hc

set_option maxRecDepth 10000 in
set_option maxHeartbeats 8000000 in
theorem heapPop_any (B gf g n cap : Nat) (L : List Rc) (w : World) (h : Fr w B gf g (n + 1) cap L) (hh : Hp L (n + 1)) (hn : n + 1 ≤ 1000000) (hc1 : n + 1 ≤ cap) :
    Calls Try.prog 59 #[.iface 57 (.pointer (some ⟨gf, 0, none⟩))] w fun e w' => e = .returned (.iface 64 (.agg #[.int .i64 (L.getD 0 (0, 0)).1, .int .i64 (L.getD 0 (0, 0)).2])) ∧ ∃ L', Hp L' n ∧ (∀ x, x ∈ L ↔ x ∈ L' ∨ x = L.getD 0 (0, 0)) ∧ Fr w' B gf g n cap L' ∧ Kept (fun b => b = g ∨ b = gf) w w' := by
  have hl := h.len
  have HF := hide h
  have HD := hide (hpDn_pop hh (by omega))
  have c0 := h.box.cell (i := 0) rfl
  have hM1 := methLen c0
  have hM2 := methSwap c0
  have HLE := hide (lenR_any (some ⟨g, 0, none⟩) (n + 1) cap w)
  have HSW := hide (swap_any B g (n + 1) cap L 0 n w h.row hl (by omega) (by omega))
  have HMS := hide (fun x => swp_mem (L := L) (i := 0) (j := n) (by omega) (by omega) x)
  have HA0 : Hid ((swp L 0 n).getD n (0, 0) = L.getD 0 (0, 0)) := by show _ = _; rw [swp_at (by omega) (by omega), if_pos rfl]
  have HLn := hide hl
  have i1 : IntKind.i64.wrap (((n : Int) + 1) - 1) = (n : Int) := by rw [IntKind.wrap_i64]; omega
  have i2 : IntKind.i64.wrap (((n + 1 : Nat) : Int) - 1) = (n : Int) := by rw [IntKind.wrap_i64]; omega
  clear h hh hl
  go_enter Try.func59, Try.ntmps59
  go_wp2_with fail
  refine (unhide HLE).mono ?_
  rintro e w1 ⟨rfl, h9⟩
  subst h9
  clear HLE hM1
  go_wp2_with fail
  refine (unhide HSW).mono ?_
  rintro e w2 ⟨rfl, hr, hk⟩
  have HF2 := hide ((unhide HF).swap hr hk)
  have HK2 := hide (hk.mono (T' := fun b => b = g ∨ b = gf) (fun b _ hb => Or.inl hb))
  clear hr hk hM2 c0 HSW HF
  have HDN := hide (down_any B gf g (n + 1) cap n (swp L 0 n) w2 (unhide HF2) (by omega) (unhide HD) (by omega))
  go_wp2_with fail
  refine (unhide HDN).mono ?_
  rintro e w3 ⟨bb, rfl, L2, hp2, hd2⟩
  have HP2 := hide hp2
  have HD2 := hide hd2
  clear hp2 hd2 HDN HF2 HD
  have hM3 := methPop w3 gf
  have HPP := hide (frPop_any B gf g n cap L2 w3 (unhide HD2).fr (by omega) hc1)
  have HE0 : Hid (L2.getD n (0, 0) = L.getD 0 (0, 0)) := ((unhide HD2).out n (Nat.le_refl _)).trans (unhide HA0)
  rw [unhide HE0] at HPP
  go_wp2_with fail
  refine (unhide HPP).mono ?_
  rintro e w4 ⟨rfl, hf4, hk4⟩
  have HF4 := hide hf4
  have HK4 := hide (((unhide HK2).trans ((unhide HD2).kept.mono (T' := fun b => b = g ∨ b = gf) (fun b _ hb => Or.inl hb))).trans (hk4.mono (T' := fun b => b = g ∨ b = gf) (fun b _ hb => Or.inr hb)))
  have HME : Hid (∀ x, x ∈ L ↔ x ∈ L2.take n ∨ x = L.getD 0 (0, 0)) := fun x => by
    rw [← unhide HE0, ← take_mem (unhide HD2).fr.len x, (unhide HD2).mem x, unhide HMS x]
  clear hf4 hk4 HPP hM3
  go_wp2
  go_ret
  exact ⟨rfl, L2.take n, (unhide HP2).take, unhide HME, unhide HF4, unhide HK4⟩

end Go.Proofs.Ytdpcacfgbjllhaa
