/- Contracts of the program's bearsOn and cameBy. -/
import Derived.Test.YtahgblhmdhjahaaImSe2
import Derived.Test.YtahgblhmdhjahaaSeE
namespace Go.Proofs.Ytahgblhmdhjahaa
open Go.RowKit

def mAt (M : List Int) (p : Int) : Int := M.getD p.toNat 0
def bear1 (s : Se) (M : List Int) (p : Nat) (b : Int) : Bool := !sailB s b || (decide (0 ≤ mAt M b) && decide (mAt M b - M.getD p 0 ≤ costAt s b))
def bearN (s : Se) (M : List Int) (p : Nat) : Bool := (nbs s.wd s.D.length (p : Int)).all (bear1 s M p)
def came1 (s : Se) (M : List Int) (p : Nat) (a : Int) : Bool := decide (0 ≤ mAt M a) && decide (M.getD p 0 - mAt M a = s.D.getD p 0)
def cameOf (s : Se) (M : List Int) (p : Nat) : Int := ((nbs s.wd s.D.length (p : Int)).find? (came1 s M p)).getD (-1)

theorem nbs_at {s : Se} (hn : SeaN s) {p : Nat} (hp : p < s.D.length) {L : List Int} (e : L = nbs s.wd s.D.length (p : Int)) {i : Nat} (hi : i < L.length) : ∃ b : Nat, L.getD i 0 = (b : Int) ∧ b < s.D.length := by
  have hm : L.getD i 0 ∈ nbs s.wd s.D.length (p : Int) := by rw [← e, getD_lt hi]; exact List.getElem_mem _
  have h := (nbs_mem hn (by omega) (by omega)).1 hm
  exact ⟨(L.getD i 0).toNat, by omega, by omega⟩
theorem find_at {α : Type} {f : α → Bool} {L : List α} {d : α} {k : Nat} (hk : k < L.length) (h : ∀ r, r < k → f (L.getD r d) = false) (h' : f (L.getD k d) = true) : L.find? f = some (L.getD k d) := by
  induction L generalizing k with
  | nil => simp at hk
  | cons a t ih =>
    cases k with
    | zero =>
      have h2 : f a = true := by simpa [List.getD] using h'
      simp [h2, List.getD]
    | succ k =>
      have h0 : f a = false := by simpa [List.getD] using h 0 (by omega)
      rw [List.find?_cons, h0]
      have := ih (k := k) (by simpa using hk) (fun r hr => by simpa [List.getD] using h (r + 1) (by omega)) (by simpa [List.getD] using h')
      simpa [List.getD] using this
theorem find_no {α : Type} {f : α → Bool} {L : List α} {d : α} (h : ∀ r, r < L.length → f (L.getD r d) = false) : L.find? f = none := by
  rw [List.find?_eq_none]
  intro x hx
  obtain ⟨i, hi, rfl⟩ := List.mem_iff_getElem.1 hx
  have := h i hi
  rw [getD_lt hi] at this
  simp [this]

set_option maxRecDepth 10000 in
set_option maxHeartbeats 16000000 in
theorem bearsOn_any (s : Se) (dao : Option Addr) (dn dc : Nat) (fv : Value) (v : Value) (M : List Int) (p : Nat) (w : World) (hn : SeaN s) (hD : IntsIn w (.slice dao dn dc) s.D) (hM : IntsIn w v M) (hlen : M.length = s.D.length) (hp : p < s.D.length) (hp0 : 0 ≤ M.getD p 0)
    (hB : ∀ i, i < M.length → -9223372036854775808 ≤ M.getD i 0 ∧ M.getD i 0 ≤ 9223372036854775807) :
    Calls Try.prog 50 #[vSea s.wd s.hg (.slice dao dn dc) fv, v, .int .i64 (p : Int)] w fun e w' => e = .returned (.bool (bearN s M p)) ∧ Below w.heap.size w w' := by
  have A := Below.alloc1 w (.cells #[.int .i64 s.wd, .int .i64 s.hg, .slice dao dn dc, fv] 27)
  have O := ownV_alloc w #[.int .i64 s.wd, .int .i64 s.hg, .slice dao dn dc, fv] 27
  have HNB := hide (neighbours_any s (p : Int) dao dn dc fv _ hn (hD.below A) (by omega) (by omega))
  have HD := hide hD
  obtain ⟨dao', dc', eD, hdl, hdm, hdc⟩ := hD
  obtain ⟨mao, mc, rfl, hml, hmm, hmc⟩ := hM
  simp only [Value.slice.injEq] at eD
  obtain ⟨rfl, rfl, rfl⟩ := eD
  unfold maxLen at hmm
  have HDC := hide hdc
  have HMC := hide hmc
  have HMB := hide hB
  have HW := hide A
  have HO := hide O
  have HN := hide hn
  have hle := hn.le
  obtain ⟨bm, om, rfl, hcm⟩ := hmc p (by omega)
  obtain ⟨bd, od, rfl, -⟩ := hdc p hp
  have eMp := (A.cell (lt_of_cell hcm)).trans hcm
  obtain ⟨mp, emp⟩ : ∃ c, M.getD p 0 = c := ⟨_, rfl⟩
  have hpb := (hB p (by omega)).2
  rw [emp] at eMp hp0 hpb
  have EMP := hide emp
  clear A O hdc hmc hB hn hcm emp
  obtain ⟨L, eL⟩ : ∃ L, L = nbs s.wd s.D.length (p : Int) := ⟨_, rfl⟩
  rw [← eL] at HNB
  obtain ⟨r, er⟩ : ∃ r, r = bearN s M p := ⟨_, rfl⟩
  rw [← er]
  have ER : Hid (r = L.all (bear1 s M p)) := by show _ = _; rw [er, eL]; rfl
  have EL := hide eL
  clear er eL
  have hmI : (M.length : Int) ≤ 144 := by omega
  have hpM : (p : Int) < M.length := by omega
  unfold vSea at HNB ⊢
  go_enter Try.func50, Try.ntmps50
  go_wp2_with fail
  refine (unhide HNB).mono ?_
  rintro e w1 ⟨a, n', cp, rfl, ho, hb⟩
  replace HW := hide (Below.step (unhide HW) hb)
  replace HO := hide (OwnV.step (unhide HO) hb)
  have zMp := (hb.cell (lt_of_cell eMp)).trans eMp
  obtain ⟨a', cp', e', hl1, hl2, hl3⟩ := ho.intsIn
  simp only [Value.slice.injEq] at e'
  obtain ⟨rfl, rfl, rfl⟩ := e'
  unfold maxLen at hl2
  have HLC := hide hl3
  clear hb HNB ho hl3 eMp
  go_wp2
  go_loopg [13] L.length (fun g i wr => Below w1.heap.size w1 wr ∧ ∃ k : Nat, k ≤ L.length ∧ g = L.length - k ∧ i = .int .i64 k ∧ Hid (∀ r, r < k → bear1 s M p (L.getD r 0) = true))
  case atStart => exact ⟨Below.refl _ _, 0, Nat.zero_le _, rfl, rfl, fun r hr => by omega⟩
  case round =>
    obtain ⟨hWq, k, hk, rfl, rfl, HS⟩ := hrel
    have hA := Below.step (unhide HW) hWq
    by_cases hkn : k < L.length
    case neg =>
      have HY : Hid (r = true) := by show _ = _; rw [unhide ER, all_true (d := 0) (fun i hi => unhide HS i (by omega))]
      have hki : ¬ (k : Int) < L.length := by omega
      have HA := hide hA
      clear HS hA hWq
      go_wp2
      go_ret
      exact ⟨ret_bool (unhide HY).symm, unhide HA⟩
    obtain ⟨q, eq, hq⟩ := nbs_at (unhide HN) hp (unhide EL) hkn
    obtain ⟨bl, ol, rfl, hcl⟩ := unhide HLC k hkn
    have eL := (hWq.cell (lt_of_cell hcl)).trans hcl
    rw [eq] at eL
    have hki : (k : Int) < L.length := by omega
    have hO := OwnV.step (unhide HO) hWq
    have b0 := hO.cell (i := 0) rfl
    have b1 := hO.cell (i := 1) rfl
    have b2 := hO.cell (i := 2) rfl
    have b3 := hO.cell (i := 3) rfl
    obtain ⟨bm', om', em, hcm⟩ := unhide HMC q (by omega)
    simp only [Option.some.injEq, Addr.mk.injEq, and_true] at em
    obtain ⟨rfl, rfl⟩ := em
    obtain ⟨bd', od', ed, hcd⟩ := unhide HDC q hq
    simp only [Option.some.injEq, Addr.mk.injEq, and_true] at ed
    obtain ⟨rfl, rfl⟩ := ed
    have uM := wcell3 hcm hA
    have uD := wcell3 hcd hA
    have uP := (hWq.cell (lt_of_cell zMp)).trans zMp
    have hmb2 := unhide HMB q (by omega)
    have hdb2 := (unhide HN).cost q hq
    have S1 := hide (isSailed_any s (q : Int) (some ⟨bd, od, none⟩) s.D.length dc fv wr (unhide HN) ((unhide HD).below hA))
    unfold vSea at S1
    have EBE : Hid (bear1 s M p (L.getD k 0) = (!sailB s (q : Int) || (decide (0 ≤ M.getD q 0) && decide (M.getD q 0 - mp ≤ s.D.getD q 0)))) := by
      show _ = _
      unfold bear1 mAt costAt
      rw [eq, unhide EMP]
      rfl
    have HNO : Hid (bear1 s M p (L.getD k 0) = false → r = false) := fun h => by rw [unhide ER, all_false (d := 0) hkn h]
    have HYES : Hid (bear1 s M p (L.getD k 0) = true → ∀ r, r < k + 1 → bear1 s M p (L.getD r 0) = true) := fun h r hr => by
      by_cases e : r = k
      · rw [e]; exact h
      · exact unhide HS r (by omega)
    rw [unhide EBE] at HNO HYES
    have hqM : (q : Int) < M.length := by omega
    have hqD : (q : Int) < s.D.length := by omega
    have HWq := hide hWq
    have HA := hide hA
    generalize M.getD q 0 = mq at *
    generalize s.D.getD q 0 = dq at *
    obtain ⟨hmb20, hmb21⟩ := hmb2
    obtain ⟨hdb20, hdb21⟩ := hdb2
    clear hcl hcm hcd hWq hA hO eq HS EBE
    cases h3 : sailB s (q : Int) with
    | false =>
      rw [h3] at S1
      have HS' := hide (unhide HYES (by rw [h3]; rfl))
      clear HNO HYES h3
      go_wp2_with fail
      refine (unhide S1).mono ?_
      rintro e w2 ⟨rfl, hb⟩
      replace HWq := hide (Below.step (unhide HWq) hb)
      clear hb S1
      go_wp2
      go_roundg (L.length - (k + 1))
      case measure => omega
      case rel => exact ⟨unhide HWq, k + 1, by omega, rfl, by go_num, HS'⟩
    | true =>
      rw [h3] at S1 HNO HYES
      clear h3
      go_wp2_with fail
      refine (unhide S1).mono ?_
      rintro e w2 ⟨rfl, hb⟩
      have g2 := (hb.cell (lt_of_cell b2)).trans b2
      have gM := (hb.cell (lt_of_cell uM)).trans uM
      have gD := (hb.cell (lt_of_cell uD)).trans uD
      have gP := (hb.cell (lt_of_cell uP)).trans uP
      replace HWq := hide (Below.step (unhide HWq) hb)
      replace HA := hide (Below.step (unhide HA) hb)
      clear hb S1 b0 b1 b2 b3 uM uD uP eL zMp
      by_cases e2 : mq < 0
      · have HR := hide (unhide HNO (by rw [decide_eq_false (show ¬ 0 ≤ mq by omega)]; rfl))
        have f2 : decide (mq < 0) = true := decide_eq_true e2
        clear HNO HYES
        go_wp2
        go_quiet (fail)
        go_wp2
        go_ret
        exact ⟨ret_bool (unhide HR).symm, below_drewN (unhide HA) _⟩
      have f2 : decide (mq < 0) = false := decide_eq_false e2
      have q2 : IntKind.i64.wrap (mq - mp) = mq - mp := by rw [IntKind.wrap_i64]; omega
      by_cases e3 : dq < mq - mp
      · have HR := hide (unhide HNO (by rw [decide_eq_false (show ¬ mq - mp ≤ dq by omega)]; simp))
        have f3 : decide (dq < mq - mp) = true := decide_eq_true e3
        clear HNO HYES
        go_wp2
        go_quiet (fail)
        go_wp2
        go_ret
        exact ⟨ret_bool (unhide HR).symm, below_drewN (unhide HA) _⟩
      have f3 : decide (dq < mq - mp) = false := decide_eq_false e3
      have HS' := hide (unhide HYES (by rw [decide_eq_true (show 0 ≤ mq by omega), decide_eq_true (show mq - mp ≤ dq by omega)]; rfl))
      clear HNO HYES
      go_wp2
      go_quiet (fail)
      go_wp2
      go_roundg (L.length - (k + 1))
      case measure => omega
      case rel => exact ⟨below_drewN (unhide HWq) _, k + 1, by omega, rfl, by go_num, HS'⟩

set_option maxRecDepth 10000 in
set_option maxHeartbeats 16000000 in
theorem cameBy_any (s : Se) (dao : Option Addr) (dn dc : Nat) (fv : Value) (v : Value) (M : List Int) (p : Nat) (w : World) (hn : SeaN s) (hD : IntsIn w (.slice dao dn dc) s.D) (hM : IntsIn w v M) (hlen : M.length = s.D.length) (hp : p < s.D.length) (hp0 : 0 ≤ M.getD p 0)
    (hB : ∀ i, i < M.length → -9223372036854775808 ≤ M.getD i 0 ∧ M.getD i 0 ≤ 9223372036854775807) :
    Calls Try.prog 51 #[vSea s.wd s.hg (.slice dao dn dc) fv, v, .int .i64 (p : Int)] w fun e w' => e = .returned (.int .i64 (cameOf s M p)) ∧ Below w.heap.size w w' := by
  have A := Below.alloc1 w (.cells #[.int .i64 s.wd, .int .i64 s.hg, .slice dao dn dc, fv] 27)
  have O := ownV_alloc w #[.int .i64 s.wd, .int .i64 s.hg, .slice dao dn dc, fv] 27
  have HNB := hide (neighbours_any s (p : Int) dao dn dc fv _ hn (hD.below A) (by omega) (by omega))
  obtain ⟨dao', dc', eD, hdl, hdm, hdc⟩ := hD
  obtain ⟨mao, mc, rfl, hml, hmm, hmc⟩ := hM
  simp only [Value.slice.injEq] at eD
  obtain ⟨rfl, rfl, rfl⟩ := eD
  unfold maxLen at hmm
  have HMC := hide hmc
  have HMB := hide hB
  have HW := hide A
  have HO := hide O
  have HN := hide hn
  have hle := hn.le
  obtain ⟨bm, om, rfl, hcm⟩ := hmc p (by omega)
  obtain ⟨bd, od, rfl, hcd⟩ := hdc p hp
  have eMp := (A.cell (lt_of_cell hcm)).trans hcm
  have eDp := (A.cell (lt_of_cell hcd)).trans hcd
  obtain ⟨mp, emp⟩ : ∃ c, M.getD p 0 = c := ⟨_, rfl⟩
  obtain ⟨dp, edp⟩ : ∃ c, s.D.getD p 0 = c := ⟨_, rfl⟩
  have hpb := (hB p (by omega)).2
  rw [emp] at eMp hp0 hpb
  rw [edp] at eDp
  have EMP := hide emp
  have EDP := hide edp
  clear A O hdc hmc hB hn hcm hcd emp edp
  obtain ⟨L, eL⟩ : ∃ L, L = nbs s.wd s.D.length (p : Int) := ⟨_, rfl⟩
  rw [← eL] at HNB
  obtain ⟨r, er⟩ : ∃ r, r = cameOf s M p := ⟨_, rfl⟩
  rw [← er]
  have ER : Hid (r = (L.find? (came1 s M p)).getD (-1)) := by show _ = _; rw [er, eL]; rfl
  have EL := hide eL
  clear er eL
  have hmI : (M.length : Int) ≤ 144 := by omega
  have hpM : (p : Int) < M.length := by omega
  have hpD : (p : Int) < s.D.length := by omega
  unfold vSea at HNB ⊢
  go_enter Try.func51, Try.ntmps51
  go_wp2_with fail
  refine (unhide HNB).mono ?_
  rintro e w1 ⟨a, n', cp, rfl, ho, hb⟩
  replace HW := hide (Below.step (unhide HW) hb)
  replace HO := hide (OwnV.step (unhide HO) hb)
  have zMp := (hb.cell (lt_of_cell eMp)).trans eMp
  have zDp := (hb.cell (lt_of_cell eDp)).trans eDp
  obtain ⟨a', cp', e', hl1, hl2, hl3⟩ := ho.intsIn
  simp only [Value.slice.injEq] at e'
  obtain ⟨rfl, rfl, rfl⟩ := e'
  unfold maxLen at hl2
  have HLC := hide hl3
  clear hb HNB ho hl3 eMp eDp
  go_wp2
  go_loopg [13] L.length (fun g i wr => Below w1.heap.size w1 wr ∧ ∃ k : Nat, k ≤ L.length ∧ g = L.length - k ∧ i = .int .i64 k ∧ Hid (∀ r, r < k → came1 s M p (L.getD r 0) = false))
  case atStart => exact ⟨Below.refl _ _, 0, Nat.zero_le _, rfl, rfl, fun r hr => by omega⟩
  case round =>
    obtain ⟨hWq, k, hk, rfl, rfl, HS⟩ := hrel
    have hA := Below.step (unhide HW) hWq
    by_cases hkn : k < L.length
    case neg =>
      have HY : Hid (r = -1) := by show _ = _; rw [unhide ER, find_no (d := 0) (fun i hi => unhide HS i (by omega))]; rfl
      have hki : ¬ (k : Int) < L.length := by omega
      have HA := hide hA
      clear HS hA hWq
      go_wp2
      go_ret
      exact ⟨by rw [unhide HY]; rfl, unhide HA⟩
    obtain ⟨q, eq, hq⟩ := nbs_at (unhide HN) hp (unhide EL) hkn
    obtain ⟨bl, ol, rfl, hcl⟩ := unhide HLC k hkn
    have eL := (hWq.cell (lt_of_cell hcl)).trans hcl
    rw [eq] at eL
    have hki : (k : Int) < L.length := by omega
    have hO := OwnV.step (unhide HO) hWq
    have b2 := hO.cell (i := 2) rfl
    obtain ⟨bm', om', em, hcm⟩ := unhide HMC q (by omega)
    simp only [Option.some.injEq, Addr.mk.injEq, and_true] at em
    obtain ⟨rfl, rfl⟩ := em
    have uM := wcell3 hcm hA
    have uP := (hWq.cell (lt_of_cell zMp)).trans zMp
    have uD := (hWq.cell (lt_of_cell zDp)).trans zDp
    have hmb2 := unhide HMB q (by omega)
    have EBE : Hid (came1 s M p (L.getD k 0) = (decide (0 ≤ M.getD q 0) && decide (mp - M.getD q 0 = dp))) := by
      show _ = _
      unfold came1 mAt
      rw [eq, unhide EMP, unhide EDP]
      rfl
    have HYES : Hid (came1 s M p (L.getD k 0) = true → r = (q : Int)) := fun h => by rw [unhide ER, find_at (d := 0) hkn (unhide HS) h, eq]; rfl
    have HNO : Hid (came1 s M p (L.getD k 0) = false → ∀ r, r < k + 1 → came1 s M p (L.getD r 0) = false) := fun h r hr => by
      by_cases e : r = k
      · rw [e]; exact h
      · exact unhide HS r (by omega)
    rw [unhide EBE] at HNO HYES
    have hqM : (q : Int) < M.length := by omega
    have HWq := hide hWq
    have HA := hide hA
    generalize M.getD q 0 = mq at *
    obtain ⟨hmb20, hmb21⟩ := hmb2
    clear hcl hcm hWq hA hO eq HS EBE
    by_cases e2 : 0 ≤ mq
    case neg =>
      have HS' := hide (unhide HNO (by rw [decide_eq_false e2]; rfl))
      have f2 : decide (0 ≤ mq) = false := decide_eq_false e2
      clear HNO HYES
      go_wp2
      go_quiet (fail)
      go_wp2
      go_roundg (L.length - (k + 1))
      case measure => omega
      case rel => exact ⟨below_drewN (unhide HWq) _, k + 1, by omega, rfl, by go_num, HS'⟩
    have f2 : decide (0 ≤ mq) = true := decide_eq_true e2
    have q2 : IntKind.i64.wrap (mp - mq) = mp - mq := by rw [IntKind.wrap_i64]; omega
    by_cases e3 : mp - mq = dp
    · have HR := hide (unhide HYES (by rw [f2, decide_eq_true e3]; rfl))
      have f3 : (mp - mq == dp) = true := by simp; exact e3
      clear HNO HYES e3
      go_wp2
      go_quiet (fail)
      go_wp2
      go_ret
      exact ⟨by rw [unhide HR]; rfl, below_drewN (unhide HA) _⟩
    · have HS' := hide (unhide HNO (by rw [decide_eq_false e3]; simp))
      have f3 : (mp - mq == dp) = false := by simp; exact e3
      clear HNO HYES
      go_wp2
      go_quiet (fail)
      go_wp2
      go_roundg (L.length - (k + 1))
      case measure => omega
      case rel => exact ⟨below_drewN (unhide HWq) _, k + 1, by omega, rfl, by go_num, HS'⟩

end Go.Proofs.Ytahgblhmdhjahaa
