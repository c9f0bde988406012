/- Ways in numbers; contracts of the specification's WayCost and WayShut. Written by wip/mkway.py. -/
import Derived.Test.YtahgblhmdhjahaaSeC
namespace Go.Proofs.Ytahgblhmdhjahaa
open Go.RowKit

def costAt (s : Se) (p : Int) : Int := s.D.getD p.toNat 0
def stepB (s : Se) (M : List Int) (k : Nat) : Bool := onB s (M.getD k 0) && !decide (costAt s (M.getD k 0) = 0) && (decide (k = 0) || nextB s.wd (M.getD (k - 1) 0) (M.getD k 0))
def wsum (s : Se) (M : List Int) : Nat → Int
  | 0 => 0
  | k + 1 => wsum s M k + if k = 0 then 0 else costAt s (M.getD k 0)
def way0B (s : Se) (M : List Int) : Bool := seaB s && inB M.length 1 200
def wayB (s : Se) (M : List Int) : Bool := way0B s M && (List.range M.length).all (stepB s M)
def wayCost (s : Se) (M : List Int) : Int × Bool := if wayB s M = true then (wsum s M M.length, true) else (0, false)
theorem cost_bd {s : Se} (hn : SeaN s) (p : Int) : 0 ≤ costAt s p ∧ costAt s p ≤ 1000 := by
  unfold costAt
  by_cases h : p.toNat < s.D.length
  · exact hn.cost _ h
  · rw [List.getD_eq_getElem?_getD, List.getElem?_eq_none (by omega)]; simp
theorem wsum_bd {s : Se} (hn : SeaN s) (M : List Int) : ∀ k, 0 ≤ wsum s M k ∧ wsum s M k ≤ 1000 * (k : Int)
  | 0 => by simp [wsum]
  | k + 1 => by
    have h := wsum_bd hn M k
    have c := cost_bd hn (M.getD k 0)
    show 0 ≤ wsum s M k + (if k = 0 then 0 else costAt s (M.getD k 0)) ∧ wsum s M k + (if k = 0 then 0 else costAt s (M.getD k 0)) ≤ 1000 * ((k + 1 : Nat) : Int)
    split <;> omega
theorem step_on {s : Se} {M : List Int} {k : Nat} (h : stepB s M k = true) : ∃ p : Nat, M.getD k 0 = (p : Int) ∧ p < s.D.length := by
  unfold stepB onB at h
  simp only [Bool.and_eq_true] at h
  obtain ⟨a, b⟩ := inB_true h.1.1
  exact ⟨(M.getD k 0).toNat, by omega, by omega⟩
theorem wayCost_no {s : Se} {M : List Int} (h : wayB s M = false) : wayCost s M = (0, false) := by unfold wayCost; rw [h]; rfl
theorem wayCost_yes {s : Se} {M : List Int} (h : wayB s M = true) : wayCost s M = (wsum s M M.length, true) := by unfold wayCost; rw [if_pos h]
theorem wayB_step {s : Se} {M : List Int} {k : Nat} (hk : k < M.length) (h : stepB s M k = false) : wayB s M = false := by
  unfold wayB
  rw [all_false (xs := List.range M.length) (d := 0) (i := k) (by simpa using hk) (by simpa [List.getD, hk] using h), Bool.and_false]
theorem wayB_all {s : Se} {M : List Int} (h0 : way0B s M = true) (h : ∀ r, r < M.length → stepB s M r = true) : wayB s M = true := by
  unfold wayB
  rw [h0, all_true (xs := List.range M.length) (d := 0) (fun r hr => by
    have hr' : r < M.length := by simpa using hr
    simpa [List.getD, hr'] using h r hr')]
  rfl

set_option maxRecDepth 10000 in
set_option maxHeartbeats 16000000 in
theorem specWayCost_any (s : Se) (dao : Option Addr) (dn dc : Nat) (fao : Option Addr) (fn fc : Nat) (v : Value) (M : List Int) (w : World) (hD : IntsIn w (.slice dao dn dc) s.D) (hF : RClosed w (.slice fao fn fc) s.F) (hM : IntsIn w v M) :
    Calls Try.prog 26 #[vSea s.wd s.hg (.slice dao dn dc) (.slice fao fn fc), v] w fun e w' => e = .returned (.tuple #[.int .i64 (wayCost s M).1, .bool (wayCost s M).2]) ∧ Below w.heap.size w w' := by
  have A := Below.alloc1 w (.cells #[.int .i64 s.wd, .int .i64 s.hg, .slice dao dn dc, .slice fao fn fc] 27)
  have O := ownV_alloc w #[.int .i64 s.wd, .int .i64 s.hg, .slice dao dn dc, .slice fao fn fc] 27
  have HOK := hide (specSeaOk_any s dao dn dc fao fn fc _ (hD.below A) (hF.below A))
  obtain ⟨dao', dc', eD, hdl, hdm, hdc⟩ := hD
  obtain ⟨fao', fc', eF, hfl, hfm, hfc⟩ := hF
  obtain ⟨mao, mc, rfl, hml, hmm, hmc⟩ := hM
  simp only [Value.slice.injEq] at eD eF
  obtain ⟨rfl, rfl, rfl⟩ := eD
  obtain ⟨rfl, rfl, rfl⟩ := eF
  unfold maxLen at hmm
  have HDC := hide hdc
  have HMC := hide hmc
  have HW := hide A
  have HO := hide O
  clear A O hdc hfc hmc
  unfold vSea at HOK ⊢
  cases h1 : seaB s with
  | false =>
    have HN : Hid (wayCost s M = (0, false)) := wayCost_no (by unfold wayB way0B; rw [h1]; rfl)
    rw [h1] at HOK
    go_enter Try.func26, Try.ntmps26
    go_wp2_with fail
    refine (unhide HOK).mono ?_
    rintro e w1 ⟨rfl, hb⟩
    replace HW := hide (Below.step (unhide HW) hb)
    clear hb HOK
    go_wp2
    refine bodyPost_ret (v := .tuple #[.int .i64 0, .bool false]) (by simp [results, Try.results26, go_sem]) rfl ⟨by rw [unhide HN], unhide HW⟩
  | true =>
  rw [h1] at HOK
  have hn := seaB_n h1
  cases h2 : inB M.length 1 200 with
  | false =>
    have HN : Hid (wayCost s M = (0, false)) := wayCost_no (by unfold wayB way0B; rw [h1, h2]; rfl)
    clear hn
    go_enter Try.func26, Try.ntmps26
    go_wp2_with fail
    refine (unhide HOK).mono ?_
    rintro e w1 ⟨rfl, hb⟩
    replace HW := hide (Below.step (unhide HW) hb)
    clear hb HOK
    go_wp2_with (go_at_call 59; refine (l1In_any _ _ _ _).mono ?_; rintro e w' ⟨rfl, h9⟩; have h8 := h9.symm; subst h8; clear h9)
    refine bodyPost_ret (v := .tuple #[.int .i64 0, .bool false]) (by simp [results, Try.results26, go_sem]) rfl ⟨by rw [unhide HN], unhide HW⟩
  | true =>
  have H0 : Hid (way0B s M = true) := by show _ = _; unfold way0B; rw [h1, h2]; rfl
  obtain ⟨hm1, hm2⟩ := inB_true h2
  have hle := hn.le
  have HN := hide hn
  clear hn
  go_enter Try.func26, Try.ntmps26
  go_wp2_with fail
  refine (unhide HOK).mono ?_
  rintro e w1 ⟨rfl, hb⟩
  replace HW := hide (Below.step (unhide HW) hb)
  replace HO := hide (OwnV.step (unhide HO) hb)
  clear hb HOK
  go_wp2_with (go_at_call 59; refine (l1In_any _ _ _ _).mono ?_; rintro e w' ⟨rfl, h9⟩; have h8 := h9.symm; subst h8; clear h9)
  clear h1 h2
  go_loopg [6, 7] M.length (fun g sv i wr => Below w1.heap.size w1 wr ∧ ∃ k : Nat, k ≤ M.length ∧ g = M.length - k ∧ i = .int .i64 k ∧ sv = .int .i64 (wsum s M k) ∧ Hid (∀ r, r < k → stepB s M r = true))
  case atStart => exact ⟨Below.refl _ _, 0, Nat.zero_le _, rfl, rfl, rfl, fun r hr => by omega⟩
  case round =>
    obtain ⟨hWq, k, hk, rfl, rfl, rfl, HS⟩ := hrel
    have hA := Below.step (unhide HW) hWq
    by_cases hkn : k < M.length
    case neg =>
      have HY := hide (wayCost_yes (wayB_all (unhide H0) (fun r hr => unhide HS r (by omega))))
      have hki : ¬ (k : Int) < M.length := by omega
      have hkk : k = M.length := by omega
      have HA := hide hA
      clear HS hA hWq
      subst hkk
      go_wp2
      refine bodyPost_ret (v := .tuple #[.int .i64 (wsum s M M.length), .bool true]) (by simp [results, Try.results26, go_sem]) rfl ⟨by rw [unhide HY], unhide HA⟩
    have hO := OwnV.step (unhide HO) hWq
    obtain ⟨bm, om, rfl, hcm⟩ := unhide HMC k hkn
    have e0 := wcell3 hcm hA
    have p0 := fun x' : Gr wr => gr_cell (hO.cell (i := 0) rfl) x'
    have p1 := fun x' : Gr wr => gr_cell (hO.cell (i := 1) rfl) x'
    have p2 := fun x' : Gr wr => gr_cell (hO.cell (i := 2) rfl) x'
    have p3 := fun x' : Gr wr => gr_cell (hO.cell (i := 3) rfl) x'
    have q0 := fun x' : Gr wr => gr_cell e0 x'
    have gsome := gr_some wr
    have hki : (k : Int) < M.length := by omega
    have HWq := hide hWq
    have HA := hide hA
    have HOW := hide hO
    clear hcm hA hWq hO
    have S1 := hide fun x' : Gr wr => l7Place_any s (M.getD k 0) (.slice dao s.D.length dc) (.slice fao s.F.length fc) x'.val (unhide HN)
    unfold vSea at S1
    cases h3 : onB s (M.getD k 0)
    · rw [h3] at S1
      have HNO := hide (wayCost_no (wayB_step hkn (by unfold stepB; rw [h3]; rfl)))
      clear HS h3
      generalize M.getD k 0 = pl at *
      go_wp2
      refine wp_region_grown (by kernel_rfl) (by kernel_rfl) ?_
      repeat (go_big_quiet_step (fail))
      go_big_quiet_want
      go_big_quiet_op
      go_big_quiet_call (exact calls_grown (unhide S1 _))
      repeat (go_big_quiet_step (fail))
      refine wpQuiet_nil ?_
      intro w1 hw1
      obtain ⟨z', hz⟩ := hw1
      have hb1 : Below wr.heap.size wr w1 := hz ▸ z'.ok
      clear hz gsome
      go_wp2
      refine bodyPost_ret (v := .tuple #[.int .i64 0, .bool false]) (by simp [results, Try.results26, go_sem]) rfl ⟨by rw [unhide HNO], Below.step (unhide HA) hb1⟩
    rw [h3] at S1
    obtain ⟨pi, epi, hpi⟩ : ∃ p : Nat, M.getD k 0 = (p : Int) ∧ p < s.D.length := by
      unfold onB at h3
      obtain ⟨a, b⟩ := inB_true h3
      exact ⟨(M.getD k 0).toNat, by omega, by omega⟩
    obtain ⟨bd, od, eda, hcd⟩ := unhide HDC pi hpi
    subst eda
    have e1 := wcell3 hcd (unhide HA)
    have q1 := fun x' : Gr wr => gr_cell e1 x'
    have hpiI : (pi : Int) < s.D.length := by omega
    obtain ⟨c, ec⟩ : ∃ c, s.D.getD pi 0 = c := ⟨_, rfl⟩
    have EC : Hid (costAt s (M.getD k 0) = c) := by show _ = _; unfold costAt; rw [epi, ← ec]; rfl
    rw [epi] at S1 e0
    have q0' : ∀ x' : Gr wr, x'.val.cell? ⟨bm, om + k, none⟩ = some (.int .i64 (pi : Int)) := fun x' => by have := q0 x'; rwa [epi] at this
    have q1' : ∀ x' : Gr wr, x'.val.cell? ⟨bd, od + pi, none⟩ = some (.int .i64 c) := fun x' => by have := q1 x'; rwa [ec] at this
    rw [ec] at e1
    clear q0 q1
    have EPI := hide epi
    have H3 := hide h3
    have HCD : Hid (0 ≤ c ∧ c ≤ 1000) := by rw [← unhide EC]; exact cost_bd (unhide HN) _
    clear hcd ec epi h3
    by_cases hc : c = 0
    · have HNO := hide (wayCost_no (wayB_step hkn (by unfold stepB; rw [unhide EC, decide_eq_true hc]; simp)))
      have dc0 : (c == 0) = true := by simp; exact hc
      subst hc
      clear HS
      go_wp2
      refine wp_region_grown (by kernel_rfl) (by kernel_rfl) ?_
      repeat (go_big_quiet_step (fail))
      go_big_quiet_want
      go_big_quiet_op
      go_big_quiet_call (exact calls_grown (unhide S1 _))
      repeat (go_big_quiet_step (fail))
      refine wpQuiet_nil ?_
      intro w1 hw1
      obtain ⟨z', hz⟩ := hw1
      have hb1 : Below wr.heap.size wr w1 := hz ▸ z'.ok
      clear hz gsome
      go_wp2
      refine bodyPost_ret (v := .tuple #[.int .i64 0, .bool false]) (by simp [results, Try.results26, go_sem]) rfl ⟨by rw [unhide HNO], Below.step (unhide HA) hb1⟩
    have dc0 : (c == 0) = false := by simp; exact hc
    by_cases hk0 : k = 0
    · have HST : Hid (stepB s M k = true) := by show _ = _; unfold stepB; rw [unhide H3, unhide EC, decide_eq_false hc, decide_eq_true hk0]; rfl
      have d0 : decide ((0 : Int) < (k : Int)) = false := by simp; omega
      have d0' : decide (0 < k) = false := by simp; omega
      have HS' : Hid (∀ r, r < k + 1 → stepB s M r = true) := fun r hr => by
        by_cases e : r = k
        · rw [e]; exact unhide HST
        · exact unhide HS r (by omega)
      have ES : Hid (wsum s M (k + 1) = wsum s M k) := by show wsum s M k + (if k = 0 then 0 else _) = _; rw [if_pos hk0]; omega
      clear HS hc
      have hk0i : ¬ (0 : Int) < (k : Int) := by omega
      clear hk0
      generalize wsum s M k = sk at *
      go_wp2
      refine wp_region_grown (by kernel_rfl) (by kernel_rfl) ?_
      repeat (go_big_quiet_step (fail))
      go_big_quiet_want
      go_big_quiet_op
      go_big_quiet_call (exact calls_grown (unhide S1 _))
      repeat (go_big_quiet_step (fail))
      refine wpQuiet_nil ?_
      intro w1 hw1
      obtain ⟨z', hz⟩ := hw1
      have hb1 : Below wr.heap.size wr w1 := hz ▸ z'.ok
      clear hz gsome
      go_wp2
      go_roundg (M.length - (k + 1))
      case measure => omega
      case rel => exact ⟨Below.step (unhide HWq) hb1, k + 1, by omega, rfl, by go_num, by rw [unhide ES], HS'⟩
    obtain ⟨j, ej⟩ : ∃ j, j = k - 1 := ⟨_, rfl⟩
    have hjk : j < k := by omega
    obtain ⟨pj, epj, hpj⟩ := step_on (unhide HS j hjk)
    obtain ⟨bm', om', em, hcm⟩ := unhide HMC j (by omega)
    simp only [Option.some.injEq, Addr.mk.injEq, and_true] at em
    obtain ⟨rfl, rfl⟩ := em
    have e2 := wcell3 hcm (unhide HA)
    rw [epj] at e2
    have q2 := fun x' : Gr wr => gr_cell e2 x'
    have S2 := hide fun x' : Gr wr => l7Next_any s (pj : Int) (pi : Int) (.slice (some ⟨bd, od, none⟩) s.D.length dc) (.slice fao s.F.length fc) x'.val (unhide HN) (by omega) (by omega) (by omega) hpiI
    unfold vSea at S2
    have i1 : IntKind.i64.wrap ((k : Int) - 1) = (j : Int) := by rw [IntKind.wrap_i64]; omega
    have hji : (j : Int) < M.length := by omega
    have d0 : decide ((0 : Int) < (k : Int)) = true := by simp; omega
    have d0' : decide (0 < k) = true := by simp; omega
    have hk0i : (0 : Int) < (k : Int) := by omega
    have EPJ := hide epj
    clear hcm epj
    cases h4 : nextB s.wd (pj : Int) (pi : Int)
    · rw [h4] at S2
      have HNO := hide (wayCost_no (wayB_step hkn (by unfold stepB; rw [← ej, unhide EPJ, unhide EPI, h4, decide_eq_false hk0]; simp)))
      clear HS hc ej
      go_wp2
      refine wp_region_grown (by kernel_rfl) (by kernel_rfl) ?_
      repeat (go_big_quiet_step (fail))
      go_big_quiet_want
      go_big_quiet_op
      go_big_quiet_call (exact calls_grown (unhide S1 _))
      repeat (go_big_quiet_step (fail))
      go_big_quiet_want
      go_big_quiet_op
      go_big_quiet_call (exact calls_grown (unhide S2 _))
      repeat (go_big_quiet_step (fail))
      refine wpQuiet_nil ?_
      intro w1 hw1
      obtain ⟨z', hz⟩ := hw1
      have hb1 : Below wr.heap.size wr w1 := hz ▸ z'.ok
      clear hz gsome
      go_wp2
      refine bodyPost_ret (v := .tuple #[.int .i64 0, .bool false]) (by simp [results, Try.results26, go_sem]) rfl ⟨by rw [unhide HNO], Below.step (unhide HA) hb1⟩
    · rw [h4] at S2
      have HST : Hid (stepB s M k = true) := by show _ = _; unfold stepB; rw [unhide H3, unhide EC, decide_eq_false hc, ← ej, unhide EPJ, unhide EPI, h4]; simp
      have HS' : Hid (∀ r, r < k + 1 → stepB s M r = true) := fun r hr => by
        by_cases e : r = k
        · rw [e]; exact unhide HST
        · exact unhide HS r (by omega)
      have ES : Hid (wsum s M (k + 1) = wsum s M k + c) := by show wsum s M k + (if k = 0 then 0 else _) = _; rw [if_neg hk0, unhide EC]
      have hsb := wsum_bd (unhide HN) M k
      obtain ⟨hs0, hs1⟩ := hsb
      obtain ⟨hc0, hc1⟩ := unhide HCD
      clear HS hc ej
      generalize wsum s M k = sk at *
      have hq : IntKind.i64.wrap (sk + c) = sk + c := by rw [IntKind.wrap_i64]; omega
      go_wp2
      refine wp_region_grown (by kernel_rfl) (by kernel_rfl) ?_
      repeat (go_big_quiet_step (fail))
      go_big_quiet_want
      go_big_quiet_op
      go_big_quiet_call (exact calls_grown (unhide S1 _))
      repeat (go_big_quiet_step (fail))
      go_big_quiet_want
      go_big_quiet_op
      go_big_quiet_call (exact calls_grown (unhide S2 _))
      repeat (go_big_quiet_step (fail))
      refine wpQuiet_nil ?_
      intro w1 hw1
      obtain ⟨z', hz⟩ := hw1
      have hb1 : Below wr.heap.size wr w1 := hz ▸ z'.ok
      clear hz gsome
      have z2 := OwnV.cell (OwnV.step (unhide HOW) hb1) (i := 2) rfl
      have z0 := (hb1.cell (lt_of_cell e0)).trans e0
      have z1 := (hb1.cell (lt_of_cell e1)).trans e1
      have HWn := hide (Below.step (unhide HWq) hb1)
      clear hb1 p0 p1 p2 p3 q0' q1' q2 S1 S2
      go_wp2
      go_quiet (fail)
      go_wp2
      go_roundg (M.length - (k + 1))
      case measure => omega
      case rel => exact ⟨below_drewN (unhide HWn) _, k + 1, by omega, rfl, by go_num, by rw [unhide ES], HS'⟩


def shutAt (s : Se) (M : List Int) (k : Nat) : Bool := shutB s (M.getD k 0) (k : Int)
def shutOf (s : Se) (M : List Int) : Int × Bool := match (List.range M.length).find? (shutAt s M) with
  | some k => ((k : Int), true)
  | none => (-1, false)
def wayShut (s : Se) (M : List Int) : Int × Bool := if wayB s M = true then shutOf s M else (-1, false)
theorem shutOf_yes {s : Se} {M : List Int} {k : Nat} (hk : k < M.length) (h : ∀ r, r < k → shutAt s M r = false) (h' : shutAt s M k = true) : shutOf s M = ((k : Int), true) := by
  have e : (List.range M.length).find? (shutAt s M) = some k := by
    rw [List.find?_range_eq_some]
    exact ⟨h', by simpa using hk, fun j hj => by rw [h j hj]; rfl⟩
  unfold shutOf
  rw [e]
theorem shutOf_no {s : Se} {M : List Int} (h : ∀ r, r < M.length → shutAt s M r = false) : shutOf s M = (-1, false) := by
  have e : (List.range M.length).find? (shutAt s M) = none := by
    rw [List.find?_range_eq_none]
    exact fun j hj => by rw [h j hj]; rfl
  unfold shutOf
  rw [e]
theorem wayShut_yes {s : Se} {M : List Int} (h : wayB s M = true) : wayShut s M = shutOf s M := by unfold wayShut; rw [if_pos h]
theorem wayB_n {s : Se} {M : List Int} (h : wayB s M = true) : SeaN s ∧ M.length ≤ 200 ∧ ∀ r, r < M.length → stepB s M r = true := by
  unfold wayB way0B at h
  simp only [Bool.and_eq_true, List.all_eq_true, List.mem_range] at h
  have := inB_true h.1.2
  exact ⟨seaB_n h.1.1, by omega, h.2⟩

set_option maxRecDepth 10000 in
set_option maxHeartbeats 8000000 in
theorem specWayShut_any (s : Se) (dao : Option Addr) (dn dc : Nat) (fao : Option Addr) (fn fc : Nat) (v : Value) (M : List Int) (w : World) (hD : IntsIn w (.slice dao dn dc) s.D) (hF : RClosed w (.slice fao fn fc) s.F) (hM : IntsIn w v M) :
    Calls Try.prog 29 #[vSea s.wd s.hg (.slice dao dn dc) (.slice fao fn fc), v] w fun e w' => e = .returned (.tuple #[.int .i64 (wayShut s M).1, .bool (wayShut s M).2]) ∧ Below w.heap.size w w' := by
  have A := Below.alloc1 w (.cells #[.int .i64 s.wd, .int .i64 s.hg, .slice dao dn dc, .slice fao fn fc] 27)
  have O := ownV_alloc w #[.int .i64 s.wd, .int .i64 s.hg, .slice dao dn dc, .slice fao fn fc] 27
  have HWC := hide (specWayCost_any s dao dn dc fao fn fc v M _ (hD.below A) (hF.below A) (hM.below A))
  have HF := hide (hF.below A)
  obtain ⟨mao, mc, rfl, hml, hmm, hmc⟩ := hM
  unfold maxLen at hmm
  have HMC := hide hmc
  have HW := hide A
  have HO := hide O
  clear A O hD hF hmc
  unfold vSea at HWC ⊢
  cases h1 : wayB s M with
  | false =>
    have HN : Hid (wayShut s M = (-1, false)) := by show _ = _; unfold wayShut; rw [h1]; rfl
    rw [wayCost_no h1] at HWC
    dsimp only at HWC
    go_enter Try.func29, Try.ntmps29
    go_wp2_with fail
    refine (unhide HWC).mono ?_
    rintro e w1 ⟨rfl, hb⟩
    replace HW := hide (Below.step (unhide HW) hb)
    clear hb HWC
    go_wp2
    go_loopg [8] 0 (fun g i wr => w1 = wr ∧ i = .int .i64 0)
    case atStart => exact ⟨rfl, rfl⟩
    case round =>
      obtain ⟨rfl, rfl⟩ := hrel
      by_cases hz : (0 : Int) < M.length
      all_goals
        go_wp2
        refine bodyPost_ret (v := .tuple #[.int .i64 (-1), .bool false]) (by simp [results, Try.results29, go_sem]) rfl ⟨by rw [unhide HN], unhide HW⟩
  | true =>
  obtain ⟨hn, hm2, hst⟩ := wayB_n h1
  rw [wayCost_yes h1] at HWC
  dsimp only at HWC
  have HY := hide (wayShut_yes h1)
  have HN := hide hn
  have HST := hide hst
  clear hn hst h1
  generalize wsum s M M.length = sm at *
  go_enter Try.func29, Try.ntmps29
  go_wp2_with fail
  refine (unhide HWC).mono ?_
  rintro e w1 ⟨rfl, hb⟩
  replace HW := hide (Below.step (unhide HW) hb)
  replace HO := hide (OwnV.step (unhide HO) hb)
  replace HF := hide ((unhide HF).below hb)
  clear hb HWC
  go_wp2
  go_loopg [8] M.length (fun g i wr => Below w1.heap.size w1 wr ∧ ∃ k : Nat, k ≤ M.length ∧ g = M.length - k ∧ i = .int .i64 k ∧ Hid (∀ r, r < k → shutAt s M r = false))
  case atStart => exact ⟨Below.refl _ _, 0, Nat.zero_le _, rfl, rfl, fun r hr => by omega⟩
  case round =>
    obtain ⟨hWq, k, hk, rfl, rfl, HS⟩ := hrel
    have hA := Below.step (unhide HW) hWq
    by_cases hkn : k < M.length
    case neg =>
      have HQ := hide ((unhide HY).trans (shutOf_no (fun r hr => unhide HS r (by omega))))
      have hki : ¬ (k : Int) < M.length := by omega
      have HA := hide hA
      clear HS hA hWq
      go_wp2
      refine bodyPost_ret (v := .tuple #[.int .i64 (-1), .bool false]) (by simp [results, Try.results29, go_sem]) rfl ⟨by rw [unhide HQ], unhide HA⟩
    have hO := OwnV.step (unhide HO) hWq
    obtain ⟨bm, om, rfl, hcm⟩ := unhide HMC k hkn
    obtain ⟨pi, epi, hpi⟩ := step_on (unhide HST k hkn)
    have e0 := wcell3 hcm hA
    rw [epi] at e0
    have p0 := fun x' : Gr wr => gr_cell (hO.cell (i := 0) rfl) x'
    have p1 := fun x' : Gr wr => gr_cell (hO.cell (i := 1) rfl) x'
    have p2 := fun x' : Gr wr => gr_cell (hO.cell (i := 2) rfl) x'
    have p3 := fun x' : Gr wr => gr_cell (hO.cell (i := 3) rfl) x'
    have q0 := fun x' : Gr wr => gr_cell e0 x'
    have gsome := gr_some wr
    have hki : (k : Int) < M.length := by omega
    have HFF := hide ((unhide HF).below hWq)
    have S1 := hide fun x' : Gr wr => l7Shut_any s (pi : Int) (k : Int) (.slice dao dn dc) fao fn fc x'.val (unhide HN) ((unhide HFF).below x'.ok) (by omega) (by omega)
    unfold vSea at S1
    have EK : Hid (shutAt s M k = shutB s (pi : Int) (k : Int)) := by show _ = _; unfold shutAt; rw [epi]
    have HWq := hide hWq
    have HA := hide hA
    clear hcm hA hWq hO epi e0
    cases h3 : shutB s (pi : Int) (k : Int)
    · rw [h3] at S1 EK
      have HS' : Hid (∀ r, r < k + 1 → shutAt s M r = false) := fun r hr => by
        by_cases e : r = k
        · rw [e]; exact unhide EK
        · exact unhide HS r (by omega)
      clear HS h3
      go_wp2
      refine wp_region_grown (by kernel_rfl) (by kernel_rfl) ?_
      repeat (go_big_quiet_step (fail))
      go_big_quiet_want
      go_big_quiet_op
      go_big_quiet_call (exact calls_grown (unhide S1 _))
      repeat (go_big_quiet_step (fail))
      refine wpQuiet_nil ?_
      intro w1 hw1
      obtain ⟨z', hz⟩ := hw1
      have hb1 : Below wr.heap.size wr w1 := hz ▸ z'.ok
      clear hz gsome
      go_wp2
      go_roundg (M.length - (k + 1))
      case measure => omega
      case rel => exact ⟨Below.step (unhide HWq) hb1, k + 1, by omega, rfl, by go_num, HS'⟩
    · rw [h3] at S1 EK
      have HQ := hide ((unhide HY).trans (shutOf_yes hkn (unhide HS) (unhide EK)))
      clear HS h3
      go_wp2
      refine wp_region_grown (by kernel_rfl) (by kernel_rfl) ?_
      repeat (go_big_quiet_step (fail))
      go_big_quiet_want
      go_big_quiet_op
      go_big_quiet_call (exact calls_grown (unhide S1 _))
      repeat (go_big_quiet_step (fail))
      refine wpQuiet_nil ?_
      intro w1 hw1
      obtain ⟨z', hz⟩ := hw1
      have hb1 : Below wr.heap.size wr w1 := hz ▸ z'.ok
      clear hz gsome
      go_wp2
      refine bodyPost_ret (v := .tuple #[.int .i64 (k : Int), .bool true]) (by simp [results, Try.results29, go_sem]) rfl ⟨by rw [unhide HQ], Below.step (unhide HA) hb1⟩

end Go.Proofs.Ytahgblhmdhjahaa
