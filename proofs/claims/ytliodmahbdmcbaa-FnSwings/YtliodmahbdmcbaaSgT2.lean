/- What moving hands back, over whatever body that never says 'no more'. -/
import Derived.Test.YtliodmahbdmcbaaSgT
namespace Go.Proofs.Ytliodmahbdmcbaa
open Go.RowKit Go.Shelf

attribute [local go_sem] Oper.semAt_some

theorem snoc_mem {xs L : List Int} {x : Int} (h : ∀ y ∈ xs, y ∈ L) (hx : x ∈ L) : ∀ y ∈ xs ++ [x], y ∈ L := fun y hy => by
  rcases List.mem_append.1 hy with hy | hy
  · exact h y hy
  · simp only [List.mem_singleton] at hy; subst hy; exact hx

set_option maxRecDepth 100000 in
set_option maxHeartbeats 1000000 in
theorem moving1_in (F : Fence) (n : Nat) (hF : F.fn 76) (hro : F.round = none) (hn : 1 ≤ n) (l Bn : Nat) (ao : Option Addr) (m cap : Nat) (L : List Int) (J : List Int → World → Prop)
    (hR : ∀ pre A, J pre A → A.cell? ⟨Bn, 0, none⟩ = some (.slice ao m cap) ∧ IntsIn A (.slice ao m cap) L)
    (hY : ∀ pre x W, J pre W → (pre ++ [x]).length ≤ L.length → (∀ y ∈ pre ++ [x], y ∈ L) → YieldAt F (n - 1) Try.prog l #[.int .i64 x] W fun e W' => e = .returned (.bool true) ∧ J (pre ++ [x]) W') (W : World) (h0 : J [] W) :
    CallsIn F n Try.prog 76 #[.func (.yield l) #[] #[], .pointer (some ⟨Bn, 0, none⟩)] W fun e W' => (∃ v, e = .returned v) ∧ J (mvTo L L.length) W' := by
  have HR := hide hR
  have HY := hide hY
  obtain ⟨hb, hin⟩ := hR _ _ h0
  obtain ⟨em, hl, hm⟩ := hin.len
  subst em
  unfold maxLen at hm
  clear hR hY hin
  have HJ0 := hide h0
  clear h0
  refine callsIn_of_wp Try.func76 rfl hF ?_ hro
  simp only [Try.ntmps76, List.size_toArray, List.length_cons, List.length_nil, Nat.reduceAdd, Nat.reduceSub, Array.replicate_succ, Array.replicate_zero, List.push_toArray, List.append_toArray, List.nil_append, List.cons_append]
  gi_wp2
  clear hb
  gi_loopw [7] (fun i wr => ∃ k : Nat, k ≤ L.length ∧ i = .int .i64 k ∧ Hid (J (mvTo L k) wr)) (fun i _ => L.length - (intOf i).toNat)
  case atStart => exact ⟨0, Nat.zero_le _, rfl, HJ0⟩
  case round =>
    obtain ⟨k, hk, rfl, HJ⟩ := hrel
    obtain ⟨hb, hin⟩ := unhide HR _ _ (unhide HJ)
    by_cases hlt : k < L.length
    · obtain ⟨b, o, eb, hcell⟩ := intAt hin hlt
      subst eb
      have hki : (k : Int) < L.length := by omega
      by_cases hk0 : 0 < k
      · obtain ⟨b', o', eb, hcell'⟩ := intAt hin (show k - 1 < L.length by omega)
        simp only [Option.some.injEq, Addr.mk.injEq, and_true] at eb
        obtain ⟨rfl, rfl⟩ := eb
        obtain ⟨j, rfl⟩ : ∃ j, k = j + 1 := ⟨k - 1, by omega⟩
        rw [Nat.add_sub_cancel] at hcell'
        have E : Hid (mvTo L (j + 1 + 1) = if L.getD (j + 1) 0 = L.getD j 0 then mvTo L (j + 1) else mvTo L (j + 1) ++ [L.getD (j + 1) 0]) := by show _ = _; simp [mvTo]
        have hj1 : (0 : Int) < (j : Int) + 1 := by omega
        have hj2 : (j : Int) + 1 < L.length := by omega
        have hj3 : (j : Int) < L.length := by omega
        obtain ⟨fn, tmps, assign, body, hy, hRd⟩ := unhide HY _ (L.getD (j + 1) 0) wr (unhide HJ) (by have := mvTo_len L (j + 1); simp; omega) (snoc_mem (mvTo_mem L (j + 1) (by omega)) (by rw [getD_lt (show j + 1 < L.length by omega)]; exact List.getElem_mem _))
        have HRd := hide hRd
        clear hRd hin hki
        generalize L.getD (j + 1) 0 = x at *
        generalize L.getD j 0 = y at *
        cases hxy : (x == y) with
        | true =>
          have E1 : Hid (mvTo L (j + 1 + 1) = mvTo L (j + 1)) := by show _ = _; rw [unhide E, if_pos (by simpa using hxy)]
          clear E hy HRd
          gi_wp2
          go_roundw
          case rel => exact ⟨j + 1 + 1, by omega, by simp, by rw [unhide E1]; exact HJ⟩
          case measure => simp [intOf]; omega
        | false =>
          have E1 : Hid (mvTo L (j + 1 + 1) = mvTo L (j + 1) ++ [x]) := by show _ = _; rw [unhide E, if_neg (by simpa using hxy)]
          clear E
          gi_wp2
          refine (unhide HRd).mono ?_
          rintro e W3 ⟨rfl, hJ3⟩
          gi_wp2
          go_roundw
          case rel => exact ⟨j + 1 + 1, by omega, by simp, by rw [unhide E1]; exact hJ3⟩
          case measure => simp [intOf]; omega
      · obtain rfl : k = 0 := by omega
        have E1 : Hid (mvTo L 1 = mvTo L 0 ++ [L.getD 0 0]) := by show _ = _; simp [mvTo]
        obtain ⟨fn, tmps, assign, body, hy, hRd⟩ := unhide HY _ (L.getD 0 0) wr (unhide HJ) (by have := mvTo_len L 0; simp; omega) (snoc_mem (mvTo_mem L 0 (by omega)) (by rw [getD_lt (show 0 < L.length by omega)]; exact List.getElem_mem _))
        have HRd := hide hRd
        clear hRd hin
        generalize L.getD 0 0 = x at *
        rw [Nat.add_zero] at hcell
        gi_wp2
        refine (unhide HRd).mono ?_
        rintro e W3 ⟨rfl, hJ3⟩
        gi_wp2
        go_roundw
        case rel => exact ⟨1, by omega, by simp, by rw [unhide E1]; exact hJ3⟩
        case measure => simp [intOf]; omega
    · obtain rfl : k = L.length := by omega
      gi_wp2
      go_end0
      exact ⟨⟨_, rfl⟩, unhide HJ⟩

end Go.Proofs.Ytliodmahbdmcbaa
