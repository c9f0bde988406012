/- Customs: where goods come from, in numbers; contracts of the program's partsOk and of both Origin. Written by wip/mkcsb.py. -/
import Derived.Test.YtojlkdmlelgcbaaRPart
import Derived.Test.YtojlkdmlelgcbaaCsA
import Derived.Deep.DeepCutAuto
namespace Go.Proofs.Ytojlkdmlelgcbaa
open Go.RowKit

def prB (p : PartT) : Bool := inB p.1 0 300 && inB p.2 0 1000000
def psB (L : List PartT) : Bool := L.all prB
def pall : List PartT → Int
  | [] => 0
  | p :: L => p.2 + pall L
def pown (o : Int) : List PartT → Int
  | [] => 0
  | p :: L => (if p.1 = o then p.2 else 0) + pown o L
def oriV (L : List PartT) (own least : Int) : Bool × Bool := if (psB L && inB L.length 1 50 && inB least 0 100) = true then (decide (least * pall L ≤ 100 * pown own L), true) else (false, false)
theorem pall_app : ∀ (L M : List PartT), pall (L ++ M) = pall L + pall M
  | [], M => by simp [pall]
  | x :: L, M => by simp only [List.cons_append, pall, pall_app L M]; omega
theorem pown_app (o : Int) : ∀ (L M : List PartT), pown o (L ++ M) = pown o L + pown o M
  | [], M => by simp [pown]
  | x :: L, M => by simp only [List.cons_append, pown, pown_app o L M]; omega
theorem pall_succ (L : List PartT) {k : Nat} (hk : k < L.length) : pall (L.take (k + 1)) = pall (L.take k) + (L.getD k default).2 := by
  rw [take_succ_getD L default hk, pall_app]; simp [pall]
theorem pown_succ (o : Int) (L : List PartT) {k : Nat} (hk : k < L.length) : pown o (L.take (k + 1)) = pown o (L.take k) + if (L.getD k default).1 = o then (L.getD k default).2 else 0 := by
  rw [take_succ_getD L default hk, pown_app]; simp [pown]
theorem prB_parts {p : PartT} (h : prB p = true) : (0 ≤ p.1 ∧ p.1 ≤ 300) ∧ (0 ≤ p.2 ∧ p.2 ≤ 1000000) := by
  simp only [prB, Bool.and_eq_true] at h
  exact ⟨inB_true h.1, inB_true h.2⟩
theorem psB_not {L : List PartT} {k : Nat} (hk : k < L.length) (h : prB (L.getD k default) = false) : psB L = false := by
  unfold psB
  rw [List.all_eq_false]
  rw [getD_lt hk] at h
  exact ⟨L[k], List.getElem_mem _, by rw [h]; simp⟩
theorem psB_all {L : List PartT} (h : ∀ r, r < L.length → prB (L.getD r default) = true) : psB L = true := by
  unfold psB
  rw [List.all_eq_true]
  intro x hx
  obtain ⟨i, hi, rfl⟩ := List.mem_iff_getElem.1 hx
  have := h i hi
  rwa [getD_lt hi] at this
theorem ori_not {L : List PartT} {own least : Int} (h : (psB L && inB L.length 1 50 && inB least 0 100) = false) : oriV L own least = (false, false) := if_neg (by rw [h]; simp)
theorem ori_yes {L : List PartT} {own least : Int} (h : (psB L && inB L.length 1 50 && inB least 0 100) = true) : oriV L own least = (decide (least * pall L ≤ 100 * pown own L), true) := if_pos h
theorem ret_bb {V : Bool × Bool} {x y : Bool} (h : V = (x, y)) : (Ending.returned (.tuple #[.bool x, .bool y])) = .returned (.tuple #[.bool V.1, .bool V.2]) := by rw [h]
/-- What is held while the parts are summed. -/
structure Pt (L : List PartT) (own : Int) (k : Nat) (a m : Int) : Prop where
  ea : a = pall (L.take k)
  em : m = pown own (L.take k)
  ok : ∀ r, r < k → prB (L.getD r default) = true
  bd : 0 ≤ m ∧ m ≤ a ∧ a ≤ 1000000 * k
theorem Pt.start (L : List PartT) (own : Int) : Pt L own 0 0 0 := ⟨by simp [pall], by simp [pown], fun r hr => by omega, by simp⟩
theorem Pt.next {L : List PartT} {own : Int} {k : Nat} {a m x y : Int} (h : Pt L own k a m) (hk : k < L.length) (e : L.getD k default = (x, y)) (hp : prB (x, y) = true) : Pt L own (k + 1) (a + y) (m + if x = own then y else 0) := by
  have hb := h.bd
  have hq := prB_parts hp
  dsimp only at hq
  refine ⟨by rw [pall_succ L hk, e, h.ea], by rw [pown_succ own L hk, e, h.em], fun r hr => ?_, ?_⟩
  · by_cases e2 : r = k
    · rw [e2, e]; exact hp
    · exact h.ok r (by omega)
  · split <;> omega
theorem ori_mul {least a : Int} (h1 : 0 ≤ least ∧ least ≤ 100) (h2 : 0 ≤ a ∧ a ≤ 2000000000000) : 0 ≤ least * a ∧ least * a ≤ 200000000000000 := by
  have := Int.mul_le_mul h1.2 h2.2 h2.1 (by omega : (0 : Int) ≤ 100)
  exact ⟨Int.mul_nonneg h1.1 h2.1, by omega⟩

set_option maxHeartbeats 3200000 in
theorem partsOk_any (ao : Option Addr) (n cap : Nat) (L : List PartT) (w : World) (h : RPart w (.slice ao n cap) L) :
    Calls Try.prog 50 #[.slice ao n cap] w fun e w' => e = .returned (.bool (psB L && inB L.length 1 50)) ∧ Below w.heap.size w w' := by
  obtain ⟨ao', cap', e, hl, hm, hc⟩ := h
  simp only [Value.slice.injEq] at e
  obtain ⟨rfl, rfl, rfl⟩ := e
  unfold maxLen at hm
  have HC := hide hc
  have HIn := hide fun (x a b : Int) V => within_any x a b V
  clear hc
  cases h1 : inB (L.length : Int) 1 50 with
  | false =>
    have HB : Hid ((psB L && false) = false) := by show _ = _; simp
    go_enter Try.func50, Try.ntmps50
    go_wp2_with (go_at_call 49; refine (unhide HIn _ _ _ _).mono ?_; rintro e w9 ⟨rfl, h9⟩; have h8 := h9.symm; subst h8; clear h9)
    go_ret
    exact ⟨by rw [unhide HB]; rfl, Below.refl _ _⟩
  | true =>
  go_enter Try.func50, Try.ntmps50
  go_wp2_with (go_at_call 49; refine (unhide HIn _ _ _ _).mono ?_; rintro e w9 ⟨rfl, h9⟩; have h8 := h9.symm; subst h8; clear h9)
  go_loopg [11] L.length (fun g iv wr => ∃ k : Nat, k ≤ L.length ∧ g = L.length - k ∧ iv = .int .i64 k ∧ Hid (Below w.heap.size w wr) ∧ Hid (∀ r, r < k → prB (L.getD r default) = true))
  case atStart => exact ⟨0, Nat.zero_le _, rfl, rfl, Below.refl _ _, fun r hr => by omega⟩
  case round =>
    obtain ⟨k, hk, rfl, rfl, HW, HD⟩ := hrel
    by_cases hkn : k < L.length
    · obtain ⟨b, o, x, y, rfl, hx, hy, EX⟩ := recPartAt (unhide HC) hkn
      have g0 := wcell3 hx (unhide HW)
      have g1 := wcell3 hy (unhide HW)
      have hki : (k : Int) < L.length := by omega
      have HBx := hide (ownV_alloc wr #[.int .i64 x, .int .i64 y] 48)
      have HW1 := hide (Below.step (unhide HW) (Below.alloc1 wr (.cells #[.int .i64 x, .int .i64 y] 48)))
      have EP : Hid (prB (L.getD k default) = (inB x 0 300 && inB y 0 1000000)) := by show _ = _; rw [unhide EX]; rfl
      have HNO : Hid (prB (L.getD k default) = false → (psB L && true) = false) := fun h => by rw [psB_not hkn h]; rfl
      have HYES : Hid (prB (L.getD k default) = true → ∀ r, r < k + 1 → prB (L.getD r default) = true) := fun h r hr => by
        by_cases e : r = k
        · rw [e]; exact h
        · exact unhide HD r (by omega)
      clear hx hy EX HD HW
      cases h2 : inB x 0 300 with
      | false =>
        have HB := hide (unhide HNO (by rw [unhide EP, h2]; rfl))
        clear HNO HYES EP
        go_wp2_with (go_at_call 49; refine (unhide HIn _ _ _ _).mono ?_; rintro e w9 ⟨rfl, h9⟩; have h8 := h9.symm; subst h8; clear h9)
        go_ret
        exact ⟨by rw [unhide HB]; rfl, unhide HW1⟩
      | true =>
        cases h3 : inB y 0 1000000 with
        | false =>
          have HB := hide (unhide HNO (by rw [unhide EP, h2, h3]; rfl))
          clear HNO HYES EP
          go_wp2_with (go_at_call 49; refine (unhide HIn _ _ _ _).mono ?_; rintro e w9 ⟨rfl, h9⟩; have h8 := h9.symm; subst h8; clear h9)
          go_ret
          exact ⟨by rw [unhide HB]; rfl, unhide HW1⟩
        | true =>
          have HB := hide (unhide HYES (by rw [unhide EP, h2, h3]; rfl))
          clear HNO HYES EP
          go_wp2_with (go_at_call 49; refine (unhide HIn _ _ _ _).mono ?_; rintro e w9 ⟨rfl, h9⟩; have h8 := h9.symm; subst h8; clear h9)
          go_roundg (L.length - (k + 1))
          case measure => omega
          case rel => exact ⟨k + 1, by omega, rfl, by go_num, HW1, HB⟩
    · have HB : Hid ((psB L && true) = true) := by show _ = _; rw [psB_all fun r hr => unhide HD r (by omega)]; rfl
      go_wp2
      go_ret
      exact ⟨by rw [unhide HB]; rfl, unhide HW⟩

set_option maxRecDepth 10000 in
set_option maxHeartbeats 6400000 in
theorem implOrigin_any (ao : Option Addr) (n cap : Nat) (L : List PartT) (own least : Int) (w : World) (h : RPart w (.slice ao n cap) L) (hs : L.length ≤ 1048576) :
    Calls Try.prog 17 #[.slice ao n cap, .int .i64 own, .int .i64 least] w fun e w' => e = .returned (.tuple #[.bool (oriV L own least).1, .bool (oriV L own least).2]) ∧ Below w.heap.size w w' := by
  have HPK := hide (partsOk_any ao n cap L w h)
  obtain ⟨ao', cap', e, hl, hm, hc⟩ := h
  simp only [Value.slice.injEq] at e
  obtain ⟨rfl, rfl, rfl⟩ := e
  unfold maxLen at hm
  have HC := hide hc
  have HIn := hide fun (x a b : Int) V => within_any x a b V
  have HNOT := hide fun h => ori_not (L := L) (own := own) (least := least) h
  have HYES := hide fun h => ori_yes (L := L) (own := own) (least := least) h
  clear hc
  cases h1 : (psB L && inB (L.length : Int) 1 50) with
  | false =>
    rw [h1] at HPK
    have HF : Hid (oriV L own least = (false, false)) := unhide HNOT (by rw [h1]; rfl)
    go_enter Try.func17, Try.ntmps17
    go_wp2_with fail
    refine (unhide HPK).mono ?_
    rintro e w1 ⟨rfl, hb⟩
    have HW := hide hb
    clear hb
    go_wp2
    refine bodyPost_ret (v := .tuple #[.bool false, .bool false]) (by simp [results, Try.results17, go_sem]) rfl ⟨ret_bb (unhide HF), unhide HW⟩
  | true =>
  rw [h1] at HPK
  cases h2 : inB least 0 100 with
  | false =>
    have HF : Hid (oriV L own least = (false, false)) := unhide HNOT (by rw [h1, h2]; rfl)
    go_enter Try.func17, Try.ntmps17
    go_wp2_with fail
    refine (unhide HPK).mono ?_
    rintro e w1 ⟨rfl, hb⟩
    have HW := hide hb
    clear hb
    go_wp2_with (go_at_call 49; refine (unhide HIn _ _ _ _).mono ?_; rintro e w9 ⟨rfl, h9⟩; have h8 := h9.symm; subst h8; clear h9)
    refine bodyPost_ret (v := .tuple #[.bool false, .bool false]) (by simp [results, Try.results17, go_sem]) rfl ⟨ret_bb (unhide HF), unhide HW⟩
  | true =>
  have hls := inB_true h2
  have hpp := h1
  rw [Bool.and_eq_true] at hpp
  have HPR : Hid (∀ r, r < L.length → prB (L.getD r default) = true) := fun r hr => by
    have := List.all_eq_true.1 hpp.1 (L[r]) (List.getElem_mem hr)
    rwa [getD_lt hr]
  have HY2 := hide (unhide HYES (by rw [h1, h2]; rfl))
  clear hpp
  go_enter Try.func17, Try.ntmps17
  go_wp2_with fail
  refine (unhide HPK).mono ?_
  rintro e w1 ⟨rfl, hb⟩
  have HW0 := hide hb
  clear hb HPK
  go_wp2_with (go_at_call 49; refine (unhide HIn _ _ _ _).mono ?_; rintro e w9 ⟨rfl, h9⟩; have h8 := h9.symm; subst h8; clear h9)
  go_loopg [8, 9, 22] L.length (fun g mv av iv wr => ∃ (k : Nat) (a m : Int), k ≤ L.length ∧ g = L.length - k ∧ iv = .int .i64 k ∧ mv = .int .i64 m ∧ av = .int .i64 a ∧ Hid (Below w.heap.size w wr) ∧ Hid (Pt L own k a m))
  case atStart => exact ⟨0, 0, 0, Nat.zero_le _, rfl, rfl, rfl, rfl, HW0, Pt.start L own⟩
  case round =>
    clear HW0
    obtain ⟨k, a, m, hk, rfl, rfl, rfl, rfl, HW, HP⟩ := hrel
    by_cases hkn : k < L.length
    · obtain ⟨b, o, x, y, rfl, hx, hy, EX⟩ := recPartAt (unhide HC) hkn
      have g0 := wcell3 hx (unhide HW)
      have g1 := wcell3 hy (unhide HW)
      have hki : (k : Int) < L.length := by omega
      have HBx := hide (ownV_alloc wr #[.int .i64 x, .int .i64 y] 48)
      have HW1 := hide (Below.step (unhide HW) (Below.alloc1 wr (.cells #[.int .i64 x, .int .i64 y] 48)))
      have EP : Hid (prB (x, y) = (inB x 0 300 && inB y 0 1000000)) := rfl
      have hbd := (unhide HP).bd
      have HNX := hide fun hp => (unhide HP).next hkn (unhide EX) hp
      clear hx hy HW
      have EP2 : Hid (prB (x, y) = true) := by have := unhide HPR k hkn; rwa [unhide EX] at this
      have HNX2 := hide (unhide HNX (unhide EP2))
      have hq := prB_parts (unhide EP2)
      dsimp only at hq
      by_cases hxo : x = own
      · have dx : (x == own) = true := by simpa using hxo
        rw [if_pos hxo] at HNX2
        clear hxo
        have e1 : IntKind.i64.wrap (a + y) = a + y := by rw [IntKind.wrap_i64]; omega
        have e2 : IntKind.i64.wrap (m + y) = m + y := by rw [IntKind.wrap_i64]; omega
        go_wp2
        go_roundg (L.length - (k + 1))
        case measure => omega
        case rel => exact ⟨k + 1, a + y, m + y, by omega, rfl, by go_num, by go_num, by go_num, HW1, HNX2⟩
      · have dx : (x == own) = false := by simpa using hxo
        rw [if_neg hxo, Int.add_zero] at HNX2
        clear hxo
        have e1 : IntKind.i64.wrap (a + y) = a + y := by rw [IntKind.wrap_i64]; omega
        go_wp2
        go_roundg (L.length - (k + 1))
        case measure => omega
        case rel => exact ⟨k + 1, a + y, m, by omega, rfl, by go_num, by go_num, by go_num, HW1, HNX2⟩
    · have hP := unhide HP
      have hbd := hP.bd
      have ea : a = pall L := by rw [hP.ea, show k = L.length by omega, List.take_length]
      have em : m = pown own L := by rw [hP.em, show k = L.length by omega, List.take_length]
      have hmu := ori_mul (a := a) hls (by omega)
      rw [← ea, ← em] at HY2
      obtain ⟨q, eq⟩ : ∃ q, q = least * a := ⟨_, rfl⟩
      rw [← eq] at HY2 hmu
      have e1 : IntKind.i64.wrap (m * 100) = m * 100 := by rw [IntKind.wrap_i64]; omega
      have e2 : IntKind.i64.wrap (least * a) = q := by rw [← eq, IntKind.wrap_i64]; omega
      have HF : Hid (oriV L own least = (decide (q ≤ m * 100), true)) := by show _ = _; rw [unhide HY2, Int.mul_comm 100 m]
      clear hP ea em eq HY2
      go_wp2
      refine bodyPost_ret (v := .tuple #[.bool (decide (q ≤ m * 100)), .bool true]) (by simp [results, Try.results17, go_sem]) rfl ⟨ret_bb (unhide HF), unhide HW⟩

set_option maxRecDepth 10000 in
set_option maxHeartbeats 6400000 in
theorem specOrigin_any (ao : Option Addr) (n cap : Nat) (L : List PartT) (own least : Int) (w : World) (h : RPart w (.slice ao n cap) L) (hs : L.length ≤ 1048576) :
    Calls Try.prog 36 #[.slice ao n cap, .int .i64 own, .int .i64 least] w fun e w' => e = .returned (.tuple #[.bool (oriV L own least).1, .bool (oriV L own least).2]) ∧ Below w.heap.size w w' := by
  have HPK := hide (partsOk_any ao n cap L w h)
  obtain ⟨ao', cap', e, hl, hm, hc⟩ := h
  simp only [Value.slice.injEq] at e
  obtain ⟨rfl, rfl, rfl⟩ := e
  unfold maxLen at hm
  have HC := hide hc
  have HIn := hide fun (x a b : Int) V => l1In_any x a b V
  have HNOT := hide fun h => ori_not (L := L) (own := own) (least := least) h
  have HYES := hide fun h => ori_yes (L := L) (own := own) (least := least) h
  clear hc
  clear HPK
  go_enter Try.func36, Try.ntmps36
  go_wp2
  go_loopg [8, 9, 10] L.length (fun g av mv iv wr => ∃ (k : Nat) (a m : Int), k ≤ L.length ∧ g = L.length - k ∧ iv = .int .i64 k ∧ av = .int .i64 a ∧ mv = .int .i64 m ∧ Hid (Below w.heap.size w wr) ∧ Hid (Pt L own k a m))
  case atStart => exact ⟨0, 0, 0, Nat.zero_le _, rfl, rfl, rfl, rfl, Below.refl _ _, Pt.start L own⟩
  case round =>
    obtain ⟨k, a, m, hk, rfl, rfl, rfl, rfl, HW, HP⟩ := hrel
    by_cases hkn : k < L.length
    · obtain ⟨b, o, x, y, rfl, hx, hy, EX⟩ := recPartAt (unhide HC) hkn
      have g0 := wcell3 hx (unhide HW)
      have g1 := wcell3 hy (unhide HW)
      have hki : (k : Int) < L.length := by omega
      have HBx := hide (ownV_alloc wr #[.int .i64 x, .int .i64 y] 48)
      have HW1 := hide (Below.step (unhide HW) (Below.alloc1 wr (.cells #[.int .i64 x, .int .i64 y] 48)))
      have EP : Hid (prB (x, y) = (inB x 0 300 && inB y 0 1000000)) := rfl
      have hbd := (unhide HP).bd
      have HNX := hide fun hp => (unhide HP).next hkn (unhide EX) hp
      clear hx hy HW
      have HNO : Hid (prB (x, y) = false → oriV L own least = (false, false)) := fun h => unhide HNOT (by rw [psB_not hkn (by rw [unhide EX]; exact h)]; rfl)
      cases h2 : inB x 0 300 with
      | false =>
        have HF := hide (unhide HNO (by rw [unhide EP, h2]; rfl))
        clear HNX HNO EP
        go_wp2_with (go_at_call 51; refine (unhide HIn _ _ _ _).mono ?_; rintro e w9 ⟨rfl, h9⟩; have h8 := h9.symm; subst h8; clear h9)
        refine bodyPost_ret (v := .tuple #[.bool false, .bool false]) (by simp [results, Try.results36, go_sem]) rfl ⟨ret_bb (unhide HF), unhide HW1⟩
      | true =>
        cases h3 : inB y 0 1000000 with
        | false =>
          have HF := hide (unhide HNO (by rw [unhide EP, h2, h3]; rfl))
          clear HNX HNO EP
          go_wp2_with (go_at_call 51; refine (unhide HIn _ _ _ _).mono ?_; rintro e w9 ⟨rfl, h9⟩; have h8 := h9.symm; subst h8; clear h9)
          refine bodyPost_ret (v := .tuple #[.bool false, .bool false]) (by simp [results, Try.results36, go_sem]) rfl ⟨ret_bb (unhide HF), unhide HW1⟩
        | true =>
          have EP2 : Hid (prB (x, y) = true) := by show _ = _; rw [unhide EP, h2, h3]; rfl
          have HNX2 := hide (unhide HNX (unhide EP2))
          have hq := prB_parts (unhide EP2)
          dsimp only at hq
          by_cases hxo : x = own
          · have dx : (x == own) = true := by simpa using hxo
            rw [if_pos hxo] at HNX2
            clear hxo
            have e1 : IntKind.i64.wrap (a + y) = a + y := by rw [IntKind.wrap_i64]; omega
            have e2 : IntKind.i64.wrap (m + y) = m + y := by rw [IntKind.wrap_i64]; omega
            go_wp2_with (go_at_call 51; refine (unhide HIn _ _ _ _).mono ?_; rintro e w9 ⟨rfl, h9⟩; have h8 := h9.symm; subst h8; clear h9)
            go_roundg (L.length - (k + 1))
            case measure => omega
            case rel => exact ⟨k + 1, a + y, m + y, by omega, rfl, by go_num, by go_num, by go_num, HW1, HNX2⟩
          · have dx : (x == own) = false := by simpa using hxo
            rw [if_neg hxo, Int.add_zero] at HNX2
            clear hxo
            have e1 : IntKind.i64.wrap (a + y) = a + y := by rw [IntKind.wrap_i64]; omega
            go_wp2_with (go_at_call 51; refine (unhide HIn _ _ _ _).mono ?_; rintro e w9 ⟨rfl, h9⟩; have h8 := h9.symm; subst h8; clear h9)
            go_roundg (L.length - (k + 1))
            case measure => omega
            case rel => exact ⟨k + 1, a + y, m, by omega, rfl, by go_num, by go_num, by go_num, HW1, HNX2⟩
    · have hP := unhide HP
      have hbd := hP.bd
      have ea : a = pall L := by rw [hP.ea, show k = L.length by omega, List.take_length]
      have em : m = pown own L := by rw [hP.em, show k = L.length by omega, List.take_length]
      have hps : psB L = true := psB_all fun r hr => hP.ok r (by omega)
      rw [hps] at HNOT HYES
      cases h2 : inB (L.length : Int) 1 50 with
      | false =>
        have HF : Hid (oriV L own least = (false, false)) := unhide HNOT (by rw [h2]; rfl)
        clear hP ea em HYES HNOT
        go_wp2_with (go_at_call 51; refine (unhide HIn _ _ _ _).mono ?_; rintro e w9 ⟨rfl, h9⟩; have h8 := h9.symm; subst h8; clear h9)
        refine bodyPost_ret (v := .tuple #[.bool false, .bool false]) (by simp [results, Try.results36, go_sem]) rfl ⟨ret_bb (unhide HF), unhide HW⟩
      | true =>
      cases h3 : inB least 0 100 with
      | false =>
        have HF : Hid (oriV L own least = (false, false)) := unhide HNOT (by rw [h2, h3]; rfl)
        clear hP ea em HYES HNOT
        go_wp2_with (go_at_call 51; refine (unhide HIn _ _ _ _).mono ?_; rintro e w9 ⟨rfl, h9⟩; have h8 := h9.symm; subst h8; clear h9)
        refine bodyPost_ret (v := .tuple #[.bool false, .bool false]) (by simp [results, Try.results36, go_sem]) rfl ⟨ret_bb (unhide HF), unhide HW⟩
      | true =>
      have hls := inB_true h3
      have HY2 := hide (unhide HYES (by rw [h2, h3]; rfl))
      have hmu := ori_mul (a := a) hls (by omega)
      rw [← ea, ← em] at HY2
      obtain ⟨q, eq⟩ : ∃ q, q = least * a := ⟨_, rfl⟩
      rw [← eq] at HY2 hmu
      have e1 : IntKind.i64.wrap (100 * m) = 100 * m := by rw [IntKind.wrap_i64]; omega
      have e2 : IntKind.i64.wrap (least * a) = q := by rw [← eq, IntKind.wrap_i64]; omega
      have HF : Hid (oriV L own least = (decide (q ≤ 100 * m), true)) := by show _ = _; rw [unhide HY2]
      clear hP ea em eq HY2 HYES HNOT
      go_wp2_with (go_at_call 51; refine (unhide HIn _ _ _ _).mono ?_; rintro e w9 ⟨rfl, h9⟩; have h8 := h9.symm; subst h8; clear h9)
      refine bodyPost_ret (v := .tuple #[.bool (decide (q ≤ 100 * m)), .bool true]) (by simp [results, Try.results36, go_sem]) rfl ⟨ret_bb (unhide HF), unhide HW⟩

end Go.Proofs.Ytojlkdmlelgcbaa
