/- Stowage: the program's StowCode. Written by wip/mksto2.py. -/
import Derived.Test.YtnfdokcpjcnknaaStoF
import Derived.FnLit
import Derived.Defers
import Derived.Recover
namespace Go.Proofs.Ytnfdokcpjcnknaa
open Go.RowKit

set_option maxRecDepth 10000 in
set_option maxHeartbeats 3200000 in
theorem mustNotBe_any (F : Nat) (c : Int) (p : Nat → Bool) (bv lv : Value) (ao : Option Addr) (n cap : Nat) (w : World) (hlv : lv = .slice ao n cap) (hn : n ≤ 1000) (hF : ∀ args W, (callFunc F args).run Try.prog W = .ok (.enter F args) W)
    (hQ : ∀ k V, k < n → Below w.heap.size w V → Calls Try.prog F #[.agg #[bv, lv], .int .i64 (k : Int)] V fun e w' => e = .returned (.bool (p k)) ∧ Below V.heap.size V w') :
    Calls Try.prog 38 #[.agg #[bv, lv], .int .i64 c, .func (.func F) #[.agg #[bv, lv]] #[]] w fun e w' =>
      (((∀ r, r < n → p r = false) ∧ e = .returned (.tuple #[])) ∨ (∃ k, k < n ∧ p k = true ∧ (∀ r, r < k → p r = false) ∧ e = .panicked [{ v := .iface 73 (.agg #[.int .i64 c, .int .i64 (k : Int)]), recovered := false }])) ∧ Below w.heap.size w w' := by
  subst hlv
  have HQ := hide hQ
  clear hQ
  have HW0 := hide (Below.alloc1 w (.cells #[bv, .slice ao n cap] 57))
  have HB0 := hide (ownV_alloc w #[bv, .slice ao n cap] 57)
  have b1 := (unhide HB0).cell (i := 1) rfl
  go_enter Try.func38, Try.ntmps38
  go_wp2
  go_loopg [10] n (fun g kv wr => ∃ k : Nat, k ≤ n ∧ g = n - k ∧ kv = .int .i64 k ∧ Hid (∀ r, r < k → p r = false) ∧ Hid (Below w.heap.size w wr))
  case atStart => exact ⟨0, Nat.zero_le _, rfl, rfl, fun r hr => by omega, unhide HW0⟩
  case round =>
    clear HW0 HB0 b1
    obtain ⟨k, hk, rfl, rfl, HA, HW⟩ := hrel
    by_cases hkn : k < n
    · have hki : (k : Int) < n := by omega
      have HQk := hide fun V => unhide HQ k V hkn
      have HA1 : Hid (p k = false → ∀ r, r < k + 1 → p r = false) := fun h r hr => by
        by_cases e : r = k
        · rw [e]; exact h
        · exact unhide HA r (by omega)
      clear HQ
      go_wp2_with fail
      refine (unhide HQk _ (unhide HW)).mono ?_
      rintro e w2 ⟨rfl, hb⟩
      replace HW := hide (Below.step (unhide HW) hb)
      clear hb HQk
      cases hp : p k with
      | true =>
        have HPk := hide hp
        go_wp2
        exact ⟨rfl, Or.inr ⟨k, hkn, unhide HPk, unhide HA, rfl⟩, unhide HW⟩
      | false =>
        replace HA1 := hide (unhide HA1 hp)
        clear hp
        go_wp2
        go_roundg (n - (k + 1))
        case measure => omega
        case rel => exact ⟨k + 1, by omega, rfl, by go_num, unhide HA1, unhide HW⟩
    · have hki : ¬ (k : Int) < n := by omega
      have hkk : k = n := by omega
      have E : Hid (∀ r, r < n → p r = false) := fun r hr => unhide HA r (by omega)
      clear hkk
      go_wp2
      go_end0
      exact ⟨Or.inl ⟨unhide E, rfl⟩, unhide HW⟩

theorem assertFault (v : Value) (W : World) : (Instr.typeAssert (.iface 73 v) 20 73 true).run Try.prog W = .ok (.tuple #[v, .bool true]) W := by kernel_rfl

set_option maxRecDepth 10000 in
set_option maxHeartbeats 1600000 in
theorem faultOf_nil (w : World) : Calls Try.prog 25 #[.nilIface] w fun e w' => e = .returned (.tuple #[.int .i64 0, .int .i64 0]) ∧ w' = w := by
  go_enter Try.func25, Try.ntmps25
  go_wp2
  refine bodyPost_ret (v := .tuple #[.int .i64 0, .int .i64 0]) (by simp [results, Try.results25, go_sem]) rfl ⟨rfl, rfl⟩

set_option maxRecDepth 10000 in
set_option maxHeartbeats 1600000 in
theorem faultOf_hit (c k : Int) (w : World) : Calls Try.prog 25 #[.iface 73 (.agg #[.int .i64 c, .int .i64 k])] w fun e w' => e = .returned (.tuple #[.int .i64 c, .int .i64 k]) ∧ Below w.heap.size w w' := by
  have hA := assertFault (.agg #[.int .i64 c, .int .i64 k])
  go_enter Try.func25, Try.ntmps25
  go_wp2
  go_quiet (fail)
  go_wp2
  refine bodyPost_ret (v := .tuple #[.int .i64 c, .int .i64 k]) (by simp [results, Try.results25, go_sem]) rfl ⟨rfl, ?_⟩
  first | exact Below.alloc1 _ _ | exact below_drewN (Below.alloc1 _ _) _

theorem cell_setOther (w : World) {p q : Addr} (hne : p.block ≠ q.block) (v : Value) {y : Value} (h : w.cell? q = some y) : (w.setCell p v).cell? q = some y := by
  have e : (w.setCell p v).heap[q.block]? = w.heap[q.block]? := Below.heap_setCell _ _ _ _ (fun h => hne h.symm)
  exact (World.cell?_of_block (w := w) (a := q) e).trans h
theorem frozen_set (w : World) (p q : Addr) (v : Value) (h : w.frozen? q = false) : (w.setCell p v).frozen? q = false := by
  rw [World.frozen?_setCell]
  exact h
/-- What is deferred, where the plan panicked: what it panicked with is told. -/
theorem stowCatch_p (p q : Addr) (c k : Int) (x y : Value) (older : List PanicEntry) (w : World) (hp : w.cell? p = some x) (hpf : w.frozen? p = false) (hq : w.cell? q = some y) (hqf : w.frozen? q = false) (hne : p.block ≠ q.block) :
    CallsD Try.prog 24 #[.pointer (some p), .pointer (some q)] (.panicking ({ v := .iface 73 (.agg #[.int .i64 c, .int .i64 k]), recovered := false } :: older)) w fun e u' w' =>
      e = .returned (.tuple #[]) ∧ u' = .panicking ({ v := .iface 73 (.agg #[.int .i64 c, .int .i64 k]), recovered := true } :: older) ∧ ∃ w1, Below w.heap.size w w1 ∧ w' = (w1.setCell p (.int .i64 c)).setCell q (.int .i64 k) := by
  refine callsD_of_wpS Try.func24 rfl fun c₀ cs hu => ?_
  apply wpS_region
  simp [wpOpsS, go_sem, recoverD, hu, Try.ntmps24]
  refine (faultOf_hit c k w).mono ?_
  rintro e w1 ⟨rfl, hb⟩
  have hp1 := (hb.cell (lt_of_cell hp)).trans hp
  have hq1 := (hb.cell (lt_of_cell hq)).trans hq
  have hpf1 := (hb.frozen (lt_of_cell hp)).trans hpf
  have hqf1 := (hb.frozen (lt_of_cell hq)).trans hqf
  have hq2 := cell_setOther w1 hne (.int .i64 c) hq1
  have hqf2 := frozen_set w1 p q (.int .i64 c) hqf1
  simp [go_sem, hp1, hpf1, hq2, hqf2, bodyPostS, results, Try.results24]
  exact ⟨w1, hb, rfl⟩
theorem stowCatch_n (p q : Addr) (x y : Value) (w : World) (hp : w.cell? p = some x) (hpf : w.frozen? p = false) (hq : w.cell? q = some y) (hqf : w.frozen? q = false) (hne : p.block ≠ q.block) :
    CallsD Try.prog 24 #[.pointer (some p), .pointer (some q)] .returning w fun e u' w' =>
      e = .returned (.tuple #[]) ∧ u' = .returning ∧ w' = (w.setCell p (.int .i64 0)).setCell q (.int .i64 0) := by
  refine callsD_of_wpS Try.func24 rfl fun c₀ cs hu => ?_
  apply wpS_region
  simp [wpOpsS, go_sem, recoverD, hu, Try.ntmps24]
  refine (faultOf_nil w).mono ?_
  rintro e w1 ⟨rfl, rfl⟩
  have hq2 := cell_setOther w1 hne (.int .i64 0) hq
  have hqf2 := frozen_set w1 p q (.int .i64 0) hqf
  simp [go_sem, hp, hpf, hq2, hqf2, bodyPostS, results, Try.results24]
  cases c₀
  simp_all

end Go.Proofs.Ytnfdokcpjcnknaa
