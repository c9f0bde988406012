/- The contract of room: the least place from which on so many are free. -/
import Derived.Test.YtogoknldhimgfaaQyA
import Derived.Test.YtogoknldhimgfaaQyM
import Derived.Conc.EventLaws
namespace Go.Proofs.Ytogoknldhimgfaa
open Go.RowKit Go.Conc

theorem equalIn_chan (d a b : Nat) (w : World) : (Op.equalIn (d + 1) 111 (.chan (some a)) (.chan (some b))).run Try.prog w = .ok (a == b) w := by
  simp [Op.equalIn, run_underlying Try.underlying111]
theorem equal_chan (a b : Nat) (w : World) : (Op.equal 111 (.chan (some a)) (.chan (some b))).run Try.prog w = .ok (a == b) w := equalIn_chan 9999 a b w
theorem neq_chan (a b : Nat) (w : World) : (binOp .neq 111 (.chan (some a)) (.chan (some b))).run Try.prog w = .ok (.bool (a != b)) w := by
  simp only [binOp]
  simp [equal_chan a b w, bne]
theorem Qy.past {W : World} {gq n K : Nat} {B : Nat → Bool} (h : Qy W gq n (K + 1) B) (buf : Array Value) (c : Bool) (s r : Nat) : Qy (W.setChan (gq + 1 + K) 1 buf c s r false) gq n (K + 1) B := by
  refine ⟨h.row.setChan (by omega) _ _ _ _ _ _, fun j h1 h2 => ?_, by rw [size_setCh]; exact h.sz⟩
  obtain ⟨buf, s', r', e', f⟩ := h.ch j (by omega) h2
  exact ⟨buf, s', r', (setChan_ne W _ _ _ _ _ _ (by omega)).trans e', f⟩

set_option maxRecDepth 100000 in
set_option maxHeartbeats 8000000 in
theorem room_any (gq n long m : Nat) (B : Nat → Bool) (w : World) (h : Qy w gq n 0 B) (hn : n = long + 1) (hl : long ≤ 1000) (hm : 1 ≤ m) (hm2 : m ≤ 1000) :
    Calls Try.prog 86 #[.slice (some ⟨gq, 0, none⟩) n n, .int .i64 (m : Int)] w fun e w' => e = .returned (.int .i64 (leastV B m long)) ∧ Kept (qyT gq n) w w' := by
  have HQ0 := hide h
  have hgs := h.sz
  have ce := h.row.cell (qyV_at (i := long) (by omega))
  have q1 : IntKind.i64.wrap ((n : Int) - 1) = (long : Int) := by rw [IntKind.wrap_i64]; omega
  have q2 : (n : Int) - 1 = (long : Int) := by omega
  have hln : (long : Int) < (n : Int) := by omega
  have hln2 : long < n := by omega
  have hn2 : n ≤ long + 1 := by omega
  have HN1 := hide hn
  clear h hn
  go_enter Try.func86, Try.ntmps86
  go_upto_region 1 with (fail)
  go_region
  have hdr : Below w.heap.size w w.drew := (Below.refl _ _).drew
  have HK0 := hide (kept_of_below (T := qyT gq n) hdr)
  replace HQ0 := hide ((unhide HQ0).step hdr)
  clear ce hdr q1 q2
  generalize w.drew = w1 at *
  go_wp2
  go_loopg [5, 7] long (fun g fv kv wr => ∃ k : Nat, k ≤ long ∧ g = long - k ∧ kv = .int .i64 (k : Int) ∧ fv = .int .i64 (runB B k : Int) ∧ Hid (Qy wr gq n k B) ∧ Hid (Kept (qyT gq n) w wr) ∧ Hid (∀ q, q < k → runB B (q + 1) ≠ m))
  case atStart => exact ⟨0, Nat.zero_le _, rfl, rfl, rfl, HQ0, HK0, fun q hq => by omega⟩
  case round =>
    clear HQ0 HK0
    obtain ⟨k, hk, rfl, rfl, rfl, HQ, HK, HNO⟩ := hrel
    by_cases hkl : k < long
    · have hki : (k : Int) < (n : Int) := by omega
      have hkn : k < n := by omega
      have ck := (unhide HQ).row.cell (qyV_at (i := k) hkn)
      obtain ⟨buf, s, r, hh, ht, hf⟩ := (unhide HQ).ch k (Nat.le_refl _) hkn
      have hne : gq + 1 + k ≠ gq + 1 + long := by omega
      have HQ2 := hide ((unhide HQ).shut buf true s r)
      have ck2 := (unhide HQ2).row.cell (qyV_at (i := k) hkn)
      have hh2 := heap_setChan wr (gq + 1 + k) 1 buf true s r false (by have := (unhide HQ).sz; omega)
      have HK2 := hide ((unhide HK).setChan (c := gq + 1 + k) (by constructor <;> omega) 1 buf true s r false)
      have hrl := runB_le B k
      have ER : Hid (runB B (k + 1) = if B k then 0 else runB B k + 1) := rfl
      have hnq : (binOp .neq 111 (.chan (some (gq + 1 + k))) (.chan (some (gq + 1 + long)))).run Try.prog wr = .ok (.bool true) wr := by rw [neq_chan, show (gq + 1 + k != gq + 1 + long) = true by simpa using hne]
      clear hne
      have hrm : runB B k + 1 ≤ 1000 := by omega
      have hcl : ∀ ats ty, (Builtin.close_ ats ty #[.chan (some (gq + 1 + k))]).run Try.prog wr = .ok (.tuple #[]) (wr.setChan (gq + 1 + k) 1 buf true s r false) := fun ats ty => run_close_open ats ty hh
      go_upto_region 6 with (fail)
      obtain ⟨V, eV⟩ : ∃ V, V = wr.setChan (gq + 1 + k) 1 buf true s r false := ⟨_, rfl⟩
      rw [← eV] at HQ2 ck2 hh2 HK2 ⊢
      clear eV hnq hh ck HQ HK hcl
      refine wp_inReg ?_
      show InReg _ _ [0, 1, 2, 3, 4, 5, 6, 7, 8, 9] _ _
      refine inReg_pure (v := .slice (some ⟨gq, 0, none⟩) n n) rfl rfl (by simp [go_sem, execOp, Act.eval]) ?_
      refine inReg_pure (v := .int .i64 (k : Int)) rfl rfl (by simp [go_sem, execOp, Act.eval, Act.put]) ?_
      refine inReg_pure (v := .pointer (some ⟨gq, k, none⟩)) rfl rfl (by simp [go_sem, execOp, Act.eval, Act.put, hki]) ?_
      refine inReg_pure (v := .chan (some (gq + 1 + k))) rfl rfl (by simp [go_sem, execOp, Act.eval, Act.put, ck2]) ?_
      cases hb : B k with
      | true =>
        obtain ⟨u, rfl⟩ := ht hb
        rw [hb, if_pos rfl] at ER
        refine inReg_recvBuf (z := .int .i64 0) true rfl rfl (by simp [go_sem, execOp, rcase, Act.eval, Act.put]) hh2 (by simp) ?_
        have HQ3 := hide ((unhide HQ2).past ((#[u] : Array Value).extract 1 (#[u] : Array Value).size) true s (r + 1))
        have HK3 := hide ((unhide HK2).setChan (c := gq + 1 + k) (by constructor <;> omega) 1 ((#[u] : Array Value).extract 1 (#[u] : Array Value).size) true s (r + 1) false)
        generalize V.setChan (gq + 1 + k) 1 ((#[u] : Array Value).extract 1 (#[u] : Array Value).size) true s (r + 1) false = w5 at *
        refine inReg_pure (v := .tuple #[u, .bool true]) rfl rfl (by simp [go_sem, execOp, Act.eval, Act.put, got]) ?_
        refine inReg_pure (v := u) rfl rfl (by simp [go_sem, execOp, Act.eval, Act.put]) ?_
        refine inReg_pure (v := .bool true) rfl rfl (by simp [go_sem, execOp, Act.eval, Act.put]) ?_
        refine inReg_pure (v := u) rfl rfl (by simp [go_sem, execOp, Act.eval, Act.put]) ?_
        refine inReg_pure (v := .bool true) rfl rfl (by simp [go_sem, execOp, Act.eval, Act.put]) ?_
        refine inReg_nil ?_
        simp only [got, Act.put]
        clear hh2 ck2 HQ2 HK2 ht hf
        go_wp2
        go_roundg (long - (k + 1))
        case measure => omega
        case rel => exact ⟨k + 1, by omega, rfl, by go_num, by rw [unhide ER]; rfl, HQ3, HK3, fun q hq => by
          by_cases e : q = k
          · rw [e, unhide ER]; omega
          · exact unhide HNO q (by omega)⟩
      | false =>
        obtain rfl := hf hb
        replace ER : Hid (runB B (k + 1) = runB B k + 1) := by show _ = _; rw [unhide ER, hb]; rfl
        refine inReg_recvShut (z := .int .i64 0) true rfl rfl (by simp [go_sem, execOp, rcase, Act.eval, Act.put]) hh2 ?_
        refine inReg_pure (v := .tuple #[.int .i64 0, .bool false]) rfl rfl (by simp [go_sem, execOp, Act.eval, Act.put, got]) ?_
        refine inReg_pure (v := .int .i64 0) rfl rfl (by simp [go_sem, execOp, Act.eval, Act.put]) ?_
        refine inReg_pure (v := .bool false) rfl rfl (by simp [go_sem, execOp, Act.eval, Act.put]) ?_
        refine inReg_pure (v := .int .i64 0) rfl rfl (by simp [go_sem, execOp, Act.eval, Act.put]) ?_
        refine inReg_pure (v := .bool false) rfl rfl (by simp [go_sem, execOp, Act.eval, Act.put]) ?_
        refine inReg_nil ?_
        simp only [got, Act.put]
        clear hh2 ck2 ht hf hb
        have HRA := hide fun h => runB_at (B := B) (m := m) (k := k) h
        have q5 : IntKind.i64.wrap ((runB B k : Int) + 1) = ((runB B k + 1 : Nat) : Int) := by rw [IntKind.wrap_i64]; omega
        rw [unhide ER] at HRA
        generalize hrk : runB B k = f at *
        clear hrk
        by_cases he : f + 1 = m
        · have HV : Hid (leastV B m long = ((k + 1 - m : Nat) : Int)) := leastV_at (by omega) (unhide HRA he) (fun q hq => runB_no hm (unhide HNO) q (by omega))
          have d1 : (((f + 1 : Nat) : Int) == (m : Int)) = true := by simp; omega
          obtain ⟨z, ez⟩ : ∃ z, z = (k : Int) - (m : Int) := ⟨_, rfl⟩
          have q6 : IntKind.i64.wrap ((k : Int) - (m : Int)) = z := by rw [← ez, IntKind.wrap_i64]; omega
          have q7 : IntKind.i64.wrap (z + 1) = ((k + 1 - m : Nat) : Int) := by rw [IntKind.wrap_i64]; omega
          have q8 : z + 1 = ((k + 1 - m : Nat) : Int) := by omega
          clear ez
          go_wp2
          go_ret
          exact ⟨by rw [unhide HV]; rfl, unhide HK2⟩
        · have d1 : (((f + 1 : Nat) : Int) == (m : Int)) = false := by simp; omega
          go_wp2
          go_roundg (long - (k + 1))
          case measure => omega
          case rel => exact ⟨k + 1, by omega, rfl, by go_num, by rw [unhide ER]; rfl, HQ2, HK2, fun q hq => by
            by_cases e : q = k
            · rw [e, unhide ER]; exact he
            · exact unhide HNO q (by omega)⟩
    · obtain rfl : k = long := by omega
      have HV : Hid (leastV B m k = -1) := leastV_no (fun p hp => runB_no hm (unhide HNO) p hp) hm
      have ck := (unhide HQ).row.cell (qyV_at (i := k) (by omega))
      have hnq : (binOp .neq 111 (.chan (some (gq + 1 + k))) (.chan (some (gq + 1 + k)))).run Try.prog wr = .ok (.bool false) wr := by rw [neq_chan]; simp
      go_wp2
      go_ret
      exact ⟨by rw [unhide HV]; rfl, unhide HK⟩

end Go.Proofs.Ytogoknldhimgfaa
