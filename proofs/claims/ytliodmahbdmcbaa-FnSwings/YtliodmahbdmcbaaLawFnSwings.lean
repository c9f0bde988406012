/- FnSwings: whatever the bytes, the law's own reckoning comes out true. -/
import Derived.Test.YtliodmahbdmcbaaSwM
import Derived.Test.YtliodmahbdmcbaaSwG
import Derived.Test.YtliodmahbdmcbaaAtBig
import Derived.Deep.DeepMust
namespace Go.Proofs.Ytliodmahbdmcbaa
open Go.RowKit

theorem turns132 : (turnsOf [1, 3, 2]).length = 3 := by decide

theorem swings_none {L : List Int} (h : turnsOf L = []) : swingsOf L = [] := by
  unfold swingsOf
  rw [h]
  rfl

theorem cnt_le : ∀ W : List Sw, cnt W ≤ 2 * W.length
  | [] => by simp [cnt]
  | s :: r => by have := cnt_le r; simp [cnt]; split <;> omega

theorem OwnSl.len {B : Nat} {w : World} {ao : Option Addr} {n cap : Nat} {xs : List Int} (h : OwnSl B w (.slice ao n cap) xs) : n = xs.length ∧ n ≤ cap ∧ cap ≤ maxLen := by
  obtain ⟨ao', cap', e, h1, h2, _⟩ := h
  simp only [Value.slice.injEq] at e
  obtain ⟨_, rfl, rfl⟩ := e
  exact ⟨rfl, h1, h2⟩

theorem OwnSw.len {B : Nat} {w : World} {ao : Option Addr} {n cap : Nat} {xs : List Sw} (h : OwnSw B w (.slice ao n cap) xs) : n = xs.length ∧ n ≤ cap ∧ cap ≤ maxLen := by
  obtain ⟨ao', cap', e, h1, h2, _⟩ := h
  simp only [Value.slice.injEq] at e
  obtain ⟨_, rfl, rfl⟩ := e
  exact ⟨rfl, h1, h2⟩

theorem turns_bd' (L : List Int) (k : Nat) (hk : k < (turnsOf L).length) : -1000000000 ≤ (turnsOf L).getD k 0 ∧ (turnsOf L).getD k 0 ≤ 1000000000 := by
  cases hok : lvOk L with
  | true =>
    simp only [lvOk, Bool.and_eq_true, List.all_eq_true] at hok
    have := hok.2 ((turnsOf L).getD k 0) (turnsOf_mem L _ (by rw [getD_lt hk]; exact List.getElem_mem _))
    simp only [inB, Bool.and_eq_true, decide_eq_true_eq] at this
    exact this
  | false =>
    have : turnsOf L = [] := by simp [turnsOf, hok]
    rw [this] at hk
    simp at hk

theorem loHi_bd (T : List Int) (h : ∀ k, k < T.length → -1000000000 ≤ T.getD k 0 ∧ T.getD k 0 ≤ 1000000000) : ∀ k, k ≤ T.length → (-1000000000 ≤ loAt T k ∧ loAt T k ≤ 1000000000) ∧ (-1000000000 ≤ hiAt T k ∧ hiAt T k ≤ 1000000000)
  | 0, _ => by simp [loAt, hiAt]
  | k + 1, hk => by
    obtain ⟨i1, i2⟩ := loHi_bd T h k (by omega)
    have := h k (by omega)
    unfold loAt hiAt
    constructor <;> split <;> omega

set_option maxRecDepth 100000 in
set_option maxHeartbeats 4000000 in
theorem fnSwings_any (v : Value) (n : Nat) (w : World) (h : BytesIn w.heap.size w v n) :
    Calls Try.prog 4 #[v] w fun e w' => e = .returned (.bool true) ∧ Below w.heap.size w w' := by
  have HB := hide h
  obtain ⟨ao, cap, rfl, hl, hm, _⟩ := h
  by_cases hn : n ≤ 1048576
  case neg =>
    have d1 : decide ((1048576 : Int) < (n : Int)) = true := by simp; omega
    go_enter Try.func4, Try.ntmps4
    go_wp2_with fail
    refine (big_any _ _ _ _).mono ?_
    rintro e w' ⟨rfl, rfl⟩
    go_wp2
    go_ret
    exact ⟨rfl, Below.refl _ _⟩
  have d1 : decide ((1048576 : Int) < (n : Int)) = false := by simp; omega
  go_enter Try.func4, Try.ntmps4
  go_wp2_with fail
  refine (big_any _ _ _ _).mono ?_
  rintro e w' ⟨rfl, rfl⟩
  go_wp2_with fail
  refine (drawSwings_any _ n w (unhide HB) hn).mono ?_
  rintro e w1 ⟨u, L, rfl, hI, hb⟩
  have HL := hide hI
  have HW := hide hb
  obtain ⟨la, lc, rfl, _, _, _⟩ := hI
  clear hb
  go_wp2_with fail
  refine (implTurns_any _ L w1 (unhide HL)).mono ?_
  rintro e w2 ⟨ta, tn, tc, rfl, ht, hb⟩
  replace HL := hide ((unhide HL).below hb)
  replace HW := hide (Below.step (unhide HW) hb)
  have HT : Hid (IntsIn w2 (.slice ta tn tc) (turnsOf L)) := ht.upto.inn
  obtain ⟨rfl, htc, htm⟩ := ht.len
  clear hb ht
  go_wp2_with fail
  refine (implSwings_any _ L w2 (unhide HL)).mono ?_
  rintro e w3 ⟨sa, sn, sc, rfl, hs, hb⟩
  replace HL := hide ((unhide HL).below hb)
  replace HW := hide (Below.step (unhide HW) hb)
  replace HT := hide ((unhide HT).below hb)
  have HS : Hid (SwIn w3 (.slice sa sn sc) (swingsOf L)) := hs.intsIn
  obtain ⟨rfl, hsc, hsm⟩ := hs.len
  clear hb hs
  go_wp2_with fail
  refine (specTurns_any _ L w3 (unhide HL)).mono ?_
  rintro e w4 ⟨tb, tn, td, rfl, ht, hb⟩
  replace HW := hide (Below.step (unhide HW) hb)
  replace HT := hide ((unhide HT).below hb)
  replace HS := hide ((unhide HS).below hb)
  obtain ⟨rfl, _, _⟩ := ht.len
  clear hb ht HL
  have A5 := Below.alloc1 w4 (.cells #[.int .i64 1, .int .i64 3, .int .i64 2] 3)
  have H132 : Hid (IntsIn (w4.alloc (.cells #[.int .i64 1, .int .i64 3, .int .i64 2] 3)) (.slice (some ⟨w4.heap.size, 0, none⟩) 3 3) [1, 3, 2]) := (ownV_alloc w4 #[.int .i64 1, .int .i64 3, .int .i64 2] 3).intsIn (xs := [1, 3, 2]) (cap := 3) (by simp) (by unfold maxLen; omega)
  replace HW := hide (Below.step (unhide HW) A5)
  replace HT := hide ((unhide HT).below A5)
  replace HS := hide ((unhide HS).below A5)
  clear A5
  go_wp2_with fail
  refine (implTurns_any _ [1, 3, 2] _ (unhide H132)).mono ?_
  rintro e w5 ⟨tb', tn, td', rfl, ht, hb⟩
  replace HW := hide (Below.step (unhide HW) hb)
  replace HT := hide ((unhide HT).below hb)
  replace HS := hide ((unhide HS).below hb)
  obtain ⟨rfl, _, _⟩ := ht.len
  rw [turns132]
  clear hb ht H132
  have HTB := hide (turns_bd' L)
  have HLH := hide (loHi_bd (turnsOf L) (turns_bd' L))
  have HAL := hide (fun i (hi : i + 2 < (turnsOf L).length) => alt_at (turnsOf_alt L) hi)
  have HLAW := hide (swings_law L)
  have HNO := hide (swings_none (L := L))
  have hTl := turnsOf_len L
  have hSl := swingsOf_len L
  generalize turnsOf L = T at *
  generalize swingsOf L = M at *
  go_wp2
  unfold maxLen at htm hsm
  clear HB hl hm d1
  go_loopg [6, 7, 8] T.length (fun g lov hiv i wr => ∃ k : Nat, k ≤ T.length ∧ g = T.length - k ∧ i = .int .i64 k ∧ lov = .int .i64 (loAt T k) ∧ hiv = .int .i64 (hiAt T k) ∧ Hid (Below w5.heap.size w5 wr))
  case atStart => exact ⟨0, Nat.zero_le _, rfl, rfl, rfl, rfl, Below.refl _ _⟩
  case round =>
    obtain ⟨k, hk, rfl, rfl, rfl, rfl, HWr⟩ := hrel
    by_cases hkn : k < T.length
    · obtain ⟨b, o, rfl, hc⟩ := intAt (unhide HT) hkn
      have c0 := ((unhide HWr).cell (lt_of_cell hc)).trans hc
      have hki : (k : Int) < T.length := by omega
      have hkl : (k : Int) ≤ 201 := by omega
      obtain ⟨x1, x2⟩ := unhide HTB k hkn
      obtain ⟨⟨l1, l2⟩, h1, h2⟩ := unhide HLH k hk
      have E1 : Hid (loAt T (k + 1) = if k = 0 ∨ T.getD k 0 < loAt T k then T.getD k 0 else loAt T k) := rfl
      have E2 : Hid (hiAt T (k + 1) = if k = 0 ∨ hiAt T k < T.getD k 0 then T.getD k 0 else hiAt T k) := rfl
      have PREV : Hid (1 < k → ∃ p q : Nat, ∃ y z : Int, p = k - 1 ∧ q = k - 2 ∧ wr.cell? ⟨b, o + p, none⟩ = some (.int .i64 y) ∧ wr.cell? ⟨b, o + q, none⟩ = some (.int .i64 z) ∧ -1000000000 ≤ y ∧ y ≤ 1000000000 ∧ -1000000000 ≤ z ∧ z ≤ 1000000000 ∧ T.getD k 0 ≠ y ∧ (T.getD k 0 < y ↔ z < y) ∧ y ≠ z) := by
        intro h
        obtain ⟨b1, o1, e1, hc1⟩ := intAt (unhide HT) (show k - 1 < T.length by omega)
        obtain ⟨b2, o2, e2, hc2⟩ := intAt (unhide HT) (show k - 2 < T.length by omega)
        cases e1; cases e2
        have ha := unhide HAL (k - 2) (by omega)
        rw [show k - 2 + 2 = k by omega, show k - 2 + 1 = k - 1 by omega] at ha
        obtain ⟨y1, y2⟩ := unhide HTB (k - 1) (by omega)
        obtain ⟨z1, z2⟩ := unhide HTB (k - 2) (by omega)
        exact ⟨k - 1, k - 2, _, _, rfl, rfl, ((unhide HWr).cell (lt_of_cell hc1)).trans hc1, ((unhide HWr).cell (lt_of_cell hc2)).trans hc2, y1, y2, z1, z2, ha⟩
      clear hc
      generalize T.getD k 0 = x at *
      generalize loAt T k = lo at *
      generalize hiAt T k = hi at *
      by_cases hk0 : k = 0
      · subst hk0
        rw [Nat.add_zero] at c0
        clear PREV
        go_wp2
        go_quiet (fail)
        go_wp2
        go_roundg (T.length - (0 + 1))
        case measure => omega
        case rel => exact ⟨0 + 1, by omega, rfl, by go_num, by rw [unhide E1]; simp, by rw [unhide E2]; simp, below_drewN (unhide HWr) _⟩
      · have k0 : ((k : Int) == 0) = false := by rw [beq_eq_false_iff_ne]; omega
        by_cases hk1 : 1 < k
        · obtain ⟨p, q, y, z, ep, eq, cp, cq, y1, y2, z1, z2, a1, a2, a3⟩ := unhide PREV hk1
          have HPQ := hide (And.intro ep eq)
          have w1' : IntKind.i64.wrap ((k : Int) - 1) = (p : Int) := by rw [IntKind.wrap_i64]; omega
          have w2' : IntKind.i64.wrap ((k : Int) - 2) = (q : Int) := by rw [IntKind.wrap_i64]; omega
          have v1' : (k : Int) - 1 = (p : Int) := by omega
          have v2' : (k : Int) - 2 = (q : Int) := by omega
          have u1' : IntKind.i64.wrap (p : Int) = (p : Int) := by rw [IntKind.wrap_i64]; omega
          have u2' : IntKind.i64.wrap (q : Int) = (q : Int) := by rw [IntKind.wrap_i64]; omega
          have p1 : (p : Int) < T.length := by omega
          have q1 : (q : Int) < T.length := by omega
          have r1 : IntKind.i64.wrap (x - y) = x - y := by rw [IntKind.wrap_i64]; omega
          have r2 : IntKind.i64.wrap (y - z) = y - z := by rw [IntKind.wrap_i64]; omega
          have g1 : (1 : Int) < k := by omega
          have dd : (decide (y < x) == decide (z < y)) = false := by
            rw [beq_eq_false_iff_ne]
            intro e
            have e' := decide_eq_decide.1 e
            omega
          clear PREV ep eq a1 a2 a3
          by_cases hlo : x < lo <;> by_cases hhi : hi < x
          all_goals
            go_wp2
            go_quiet (fail)
            go_wp2
            go_roundg (T.length - (k + 1))
            case measure => omega
            case rel => exact ⟨k + 1, by omega, rfl, by go_num, by rw [unhide E1]; congr 1; split <;> omega, by rw [unhide E2]; congr 1; split <;> omega, below_drewN (unhide HWr) _⟩
        · have g1 : decide ((1 : Int) < (k : Int)) = false := by simp; omega
          clear PREV
          by_cases hlo : x < lo <;> by_cases hhi : hi < x
          all_goals
            go_wp2
            go_quiet (fail)
            go_wp2
            go_roundg (T.length - (k + 1))
            case measure => omega
            case rel => exact ⟨k + 1, by omega, rfl, by go_num, by rw [unhide E1]; congr 1; split <;> omega, by rw [unhide E2]; congr 1; split <;> omega, below_drewN (unhide HWr) _⟩
    · have hkT : k = T.length := by omega
      have hkd : decide ((k : Int) < (T.length : Int)) = false := by simp; omega
      have HKT := hide hkT
      rw [hkT] at hkd ⊢
      clear hkT
      obtain ⟨lo, elo⟩ : ∃ z, z = loAt T T.length := ⟨_, rfl⟩
      obtain ⟨hi, ehi⟩ : ∃ z, z = hiAt T T.length := ⟨_, rfl⟩
      have ELO := hide elo
      have EHI := hide ehi
      obtain ⟨⟨l1, l2⟩, h1, h2⟩ := unhide HLH T.length (Nat.le_refl _)
      rw [← elo] at l1 l2 ⊢
      rw [← ehi] at h1 h2 ⊢
      clear elo ehi
      replace HS := hide ((unhide HS).below (unhide HWr))
      replace HW := hide (Below.step (unhide HW) (unhide HWr))
      go_wp2
      go_loopg [9, 10, 11] M.length (fun g hv mv i w' => ∃ k : Nat, k ≤ M.length ∧ g = M.length - k ∧ i = .int .i64 k ∧ hv = .int .i64 (cnt (M.take k) : Int) ∧ mv = .int .i64 (mostTo M k) ∧ w' = wr)
      case atStart => exact ⟨0, Nat.zero_le _, rfl, rfl, rfl, rfl, rfl⟩
      case round =>
        obtain ⟨k', hk', rfl, rfl, rfl, rfl, rfl⟩ := hrel
        by_cases hkM : k' < M.length
        · obtain ⟨sa', sc', esl, _, _, hcs⟩ := unhide HS
          simp only [Value.slice.injEq] at esl
          obtain ⟨rfl, _, rfl⟩ := esl
          obtain ⟨b, o, r, hf, rfl, c0, c1, EX⟩ := swAt hcs hkM
          have EC : Hid (cnt (M.take (k' + 1)) = cnt (M.take k') + if hf = true then 1 else 2) := by show _ = _; rw [cnt_take M hkM, unhide EX]
          have EM : Hid (mostTo M (k' + 1) = if mostTo M k' < r then r else mostTo M k') := by show _ = _; rw [mostTo, unhide EX]
          have hcl : cnt (M.take k') ≤ 2000 := by have := cnt_le (M.take k'); simp at this; omega
          have hki : (k' : Int) < M.length := by omega
          clear hcs EX
          generalize cnt (M.take k') = cn at *
          generalize mostTo M k' = mo at *
          cases hf <;> by_cases hr : mo < r
          all_goals
            go_wp2
            go_roundg (M.length - (k' + 1))
            case measure => omega
            case rel => exact ⟨k' + 1, by omega, rfl, by go_num, by rw [unhide EC]; first | rfl | (congr 1; simp; done) | (congr 1; simp; omega), by rw [unhide EM]; congr 1; split <;> omega, rfl⟩
        · have hkM' : k' = M.length := by omega
          subst hkM'
          rw [List.take_length]
          have hMd : decide ((M.length : Int) < (M.length : Int)) = false := by simp
          by_cases hT : T = []
          · have hM := unhide HNO hT
            subst hT
            subst hM
            go_wp2
            go_ret
            exact ⟨rfl, unhide HW⟩
          · obtain ⟨q1, q2, q3⟩ := unhide HLAW hT
            have hTp : 0 < T.length := List.length_pos_iff.2 hT
            rw [← unhide ELO, ← unhide EHI] at q2
            rw [q2]
            have e1 : (cnt M : Int) = (T.length : Int) - 1 := by omega
            have e0 : ((T.length : Int) == 0) = false := by rw [beq_eq_false_iff_ne]; omega
            rw [e1]
            clear q1 q2 e1
            go_wp2
            go_ret
            exact ⟨rfl, unhide HW⟩

end Go.Proofs.Ytliodmahbdmcbaa
