/- Contracts of both Owed. Written by wip/mkly.py. -/
import Derived.Test.YticminoejikdfaaLyA
namespace Go.Proofs.Yticminoejikdfaa
open Go.RowKit

theorem ret_ib {V : Int × Bool} {x : Int} {b : Bool} (h : V = (x, b)) : (Ending.returned (.tuple #[.int .i64 x, .bool b])) = .returned (.tuple #[.int .i64 V.1, .bool V.2]) := by rw [h]
theorem owed_bd {x y : Int} (hx0 : 0 ≤ x) (hx1 : x ≤ 100000000) (hy0 : 0 ≤ y) (hy1 : y ≤ 1000000000) : 0 ≤ x * y ∧ x * y ≤ 100000000000000000 := ⟨Int.mul_nonneg hx0 hy0, by have := Int.mul_le_mul hx1 hy1 hy0 (by omega : (0 : Int) ≤ 100000000); omega⟩

set_option maxRecDepth 10000 in
set_option maxHeartbeats 4000000 in
theorem specOwed_any (n a d s u o l : Int) (w : World) :
    Calls Try.prog 29 #[vCh n a d s, v3 (u, o, l)] w fun e w' => e = .returned (.tuple #[.int .i64 (owedV n a d s u o).1, .bool (owedV n a d s u o).2]) ∧ Below w.heap.size w w' := by
  have HO1 := hide ((ownV_alloc w #[.int .i64 n, .int .i64 a, .int .i64 d, .int .i64 s] 25).step (Below.alloc1 _ (.cells #[.int .i64 u, .int .i64 o, .int .i64 l] 34)))
  have HO2 := hide (ownV_alloc (w.alloc (.cells #[.int .i64 n, .int .i64 a, .int .i64 d, .int .i64 s] 25)) #[.int .i64 u, .int .i64 o, .int .i64 l] 34)
  have HW := hide (below_alloc (Below.alloc1 w (.cells #[.int .i64 n, .int .i64 a, .int .i64 d, .int .i64 s] 25)) (.cells #[.int .i64 u, .int .i64 o, .int .i64 l] 34))
  have HQ := hide fun V => specCharterOk_any n a d s V
  unfold vCh at HQ ⊢
  unfold v3
  cases hc : chB n a d s with
  | false =>
    rw [hc] at HQ
    have HF : Hid (owedV n a d s u o = (0, false)) := owedV_not fun h => chB_not hc h.1
    go_enter Try.func29, Try.ntmps29
    go_wp2_with fail
    refine (unhide HQ _).mono ?_
    rintro e w1 ⟨rfl, hb⟩
    replace HO1 := hide ((unhide HO1).step hb)
    replace HO2 := hide ((unhide HO2).step hb)
    replace HW := hide (Below.step (unhide HW) hb)
    clear hb HQ
    simp only [World.size_alloc] at HO2
    have c0 := (unhide HO1).cell (i := 0) rfl
    have c1 := (unhide HO1).cell (i := 1) rfl
    have c2 := (unhide HO1).cell (i := 2) rfl
    have c3 := (unhide HO1).cell (i := 3) rfl
    have k0 := (unhide HO2).cell (i := 0) rfl
    have k1 := (unhide HO2).cell (i := 1) rfl
    clear HO1 HO2
    go_wp2
    refine bodyPost_ret (v := .tuple #[.int .i64 0, .bool false]) (by simp [results, Try.results29, go_sem]) rfl ⟨ret_ib (unhide HF), unhide HW⟩
  | true =>
  rw [hc] at HQ
  obtain ⟨⟨a0, a1⟩, ⟨a2, a3⟩, ⟨a4, a5⟩, a6, a7⟩ := chB_iff.1 hc
  cases h1 : inB u 0 a with
  | false =>
    have HF : Hid (owedV n a d s u o = (0, false)) := owedV_not fun h => by have := h.2.1; rw [inB_mk this.1 this.2] at h1; cases h1
    go_enter Try.func29, Try.ntmps29
    go_wp2_with fail
    refine (unhide HQ _).mono ?_
    rintro e w1 ⟨rfl, hb⟩
    replace HO1 := hide ((unhide HO1).step hb)
    replace HO2 := hide ((unhide HO2).step hb)
    replace HW := hide (Below.step (unhide HW) hb)
    clear hb HQ
    simp only [World.size_alloc] at HO2
    have c0 := (unhide HO1).cell (i := 0) rfl
    have c1 := (unhide HO1).cell (i := 1) rfl
    have c2 := (unhide HO1).cell (i := 2) rfl
    have c3 := (unhide HO1).cell (i := 3) rfl
    have k0 := (unhide HO2).cell (i := 0) rfl
    have k1 := (unhide HO2).cell (i := 1) rfl
    clear HO1 HO2
    go_wp2_with (go_at_call 51; refine (l1In_any _ _ _ _).mono ?_; rintro e w9 ⟨rfl, h9⟩; have h8 := h9.symm; subst h8; clear h9)
    refine bodyPost_ret (v := .tuple #[.int .i64 0, .bool false]) (by simp [results, Try.results29, go_sem]) rfl ⟨ret_ib (unhide HF), unhide HW⟩
  | true =>
  have hu := inB_true h1
  cases h2 : inB o 0 100000000 with
  | false =>
    have HF : Hid (owedV n a d s u o = (0, false)) := owedV_not fun h => by have := h.2.2.1; rw [inB_mk this.1 this.2] at h2; cases h2
    go_enter Try.func29, Try.ntmps29
    go_wp2_with fail
    refine (unhide HQ _).mono ?_
    rintro e w1 ⟨rfl, hb⟩
    replace HO1 := hide ((unhide HO1).step hb)
    replace HO2 := hide ((unhide HO2).step hb)
    replace HW := hide (Below.step (unhide HW) hb)
    clear hb HQ
    simp only [World.size_alloc] at HO2
    have c0 := (unhide HO1).cell (i := 0) rfl
    have c1 := (unhide HO1).cell (i := 1) rfl
    have c2 := (unhide HO1).cell (i := 2) rfl
    have c3 := (unhide HO1).cell (i := 3) rfl
    have k0 := (unhide HO2).cell (i := 0) rfl
    have k1 := (unhide HO2).cell (i := 1) rfl
    clear HO1 HO2
    go_wp2_with (go_at_call 51; refine (l1In_any _ _ _ _).mono ?_; rintro e w9 ⟨rfl, h9⟩; have h8 := h9.symm; subst h8; clear h9)
    refine bodyPost_ret (v := .tuple #[.int .i64 0, .bool false]) (by simp [results, Try.results29, go_sem]) rfl ⟨ret_ib (unhide HF), unhide HW⟩
  | true =>
  have ho := inB_true h2
  obtain ⟨u0, u1⟩ := hu
  obtain ⟨o0, o1⟩ := ho
  by_cases h3 : 0 < o
  · have e3 : (o == 0) = false := by simp; omega
    have d3 : decide (0 < o) = true := by simpa using h3
    by_cases h4 : u < a
    · have d4 : decide (u < a) = true := by simpa using h4
      have HF : Hid (owedV n a d s u o = (0, false)) := owedV_not fun h => by have := h.2.2.2 h3; omega
      go_enter Try.func29, Try.ntmps29
      go_wp2_with fail
      refine (unhide HQ _).mono ?_
      rintro e w1 ⟨rfl, hb⟩
      replace HO1 := hide ((unhide HO1).step hb)
      replace HO2 := hide ((unhide HO2).step hb)
      replace HW := hide (Below.step (unhide HW) hb)
      clear hb HQ
      simp only [World.size_alloc] at HO2
      have c0 := (unhide HO1).cell (i := 0) rfl
      have c1 := (unhide HO1).cell (i := 1) rfl
      have c2 := (unhide HO1).cell (i := 2) rfl
      have c3 := (unhide HO1).cell (i := 3) rfl
      have k0 := (unhide HO2).cell (i := 0) rfl
      have k1 := (unhide HO2).cell (i := 1) rfl
      clear HO1 HO2
      go_wp2_with (go_at_call 51; refine (l1In_any _ _ _ _).mono ?_; rintro e w9 ⟨rfl, h9⟩; have h8 := h9.symm; subst h8; clear h9)
      refine bodyPost_ret (v := .tuple #[.int .i64 0, .bool false]) (by simp [results, Try.results29, go_sem]) rfl ⟨ret_ib (unhide HF), unhide HW⟩
    · have d4 : decide (u < a) = false := by simpa using h4
      have hp := owed_bd o0 o1 a4 a5
      have HF : Hid (owedV n a d s u o = (o * d / 1440, true)) := by show _ = _; rw [owedV, if_pos ⟨chB_iff.1 hc, ⟨u0, u1⟩, ⟨o0, o1⟩, fun _ => by omega⟩, if_pos h3]
      obtain ⟨pd, epd⟩ : ∃ x, x = o * d := ⟨_, rfl⟩
      rw [← epd] at HF hp
      have EM : IntKind.i64.wrap (o * d) = pd := by rw [← epd, IntKind.wrap_i64]; omega
      have q1 := Int.tdiv_eq_ediv_of_nonneg (a := pd) (b := 1440) hp.1
      have hq : 0 ≤ pd / 1440 ∧ pd / 1440 ≤ 100000000000000000 := by omega
      clear epd
      go_enter Try.func29, Try.ntmps29
      go_wp2_with fail
      refine (unhide HQ _).mono ?_
      rintro e w1 ⟨rfl, hb⟩
      replace HO1 := hide ((unhide HO1).step hb)
      replace HO2 := hide ((unhide HO2).step hb)
      replace HW := hide (Below.step (unhide HW) hb)
      clear hb HQ
      simp only [World.size_alloc] at HO2
      have c0 := (unhide HO1).cell (i := 0) rfl
      have c1 := (unhide HO1).cell (i := 1) rfl
      have c2 := (unhide HO1).cell (i := 2) rfl
      have c3 := (unhide HO1).cell (i := 3) rfl
      have k0 := (unhide HO2).cell (i := 0) rfl
      have k1 := (unhide HO2).cell (i := 1) rfl
      clear HO1 HO2
      go_wp2_with (go_at_call 51; refine (l1In_any _ _ _ _).mono ?_; rintro e w9 ⟨rfl, h9⟩; have h8 := h9.symm; subst h8; clear h9)
      refine bodyPost_ret (v := .tuple #[.int .i64 (pd / 1440), .bool true]) (by simp [results, Try.results29, go_sem]) rfl ⟨ret_ib (unhide HF), unhide HW⟩
  · have ez : o = 0 := by omega
    have e3 : (o == 0) = true := by simp; omega
    have d3 : decide (0 < o) = false := by simpa using h3
    have hp := owed_bd (x := a - u) (by omega) (by omega) a6 a7
    have HF : Hid (owedV n a d s u o = (-((a - u) * s / 1440), true)) := by show _ = _; rw [owedV, if_pos ⟨chB_iff.1 hc, ⟨u0, u1⟩, ⟨o0, o1⟩, fun _ => by omega⟩, if_neg h3]
    obtain ⟨pd, epd⟩ : ∃ x, x = (a - u) * s := ⟨_, rfl⟩
    rw [← epd] at HF hp
    have EM : IntKind.i64.wrap ((a - u) * s) = pd := by rw [← epd, IntKind.wrap_i64]; omega
    have q1 := Int.tdiv_eq_ediv_of_nonneg (a := pd) (b := 1440) hp.1
    have hq : 0 ≤ pd / 1440 ∧ pd / 1440 ≤ 100000000000000000 := by omega
    clear epd ez
    go_enter Try.func29, Try.ntmps29
    go_wp2_with fail
    refine (unhide HQ _).mono ?_
    rintro e w1 ⟨rfl, hb⟩
    replace HO1 := hide ((unhide HO1).step hb)
    replace HO2 := hide ((unhide HO2).step hb)
    replace HW := hide (Below.step (unhide HW) hb)
    clear hb HQ
    simp only [World.size_alloc] at HO2
    have c0 := (unhide HO1).cell (i := 0) rfl
    have c1 := (unhide HO1).cell (i := 1) rfl
    have c2 := (unhide HO1).cell (i := 2) rfl
    have c3 := (unhide HO1).cell (i := 3) rfl
    have k0 := (unhide HO2).cell (i := 0) rfl
    have k1 := (unhide HO2).cell (i := 1) rfl
    clear HO1 HO2
    go_wp2_with (go_at_call 51; refine (l1In_any _ _ _ _).mono ?_; rintro e w9 ⟨rfl, h9⟩; have h8 := h9.symm; subst h8; clear h9)
    refine bodyPost_ret (v := .tuple #[.int .i64 (-(pd / 1440)), .bool true]) (by simp [results, Try.results29, go_sem]) rfl ⟨ret_ib (unhide HF), unhide HW⟩

set_option maxRecDepth 10000 in
set_option maxHeartbeats 4000000 in
theorem implOwed_any (n a d s u o l : Int) (w : World) :
    Calls Try.prog 19 #[vCh n a d s, v3 (u, o, l)] w fun e w' => e = .returned (.tuple #[.int .i64 (owedV n a d s u o).1, .bool (owedV n a d s u o).2]) ∧ Below w.heap.size w w' := by
  have HO1 := hide ((ownV_alloc w #[.int .i64 n, .int .i64 a, .int .i64 d, .int .i64 s] 25).step (Below.alloc1 _ (.cells #[.int .i64 u, .int .i64 o, .int .i64 l] 34)))
  have HO2 := hide (ownV_alloc (w.alloc (.cells #[.int .i64 n, .int .i64 a, .int .i64 d, .int .i64 s] 25)) #[.int .i64 u, .int .i64 o, .int .i64 l] 34)
  have HW := hide (below_alloc (Below.alloc1 w (.cells #[.int .i64 n, .int .i64 a, .int .i64 d, .int .i64 s] 25)) (.cells #[.int .i64 u, .int .i64 o, .int .i64 l] 34))
  have HQ := hide fun V => implCharterOk_any n a d s V
  unfold vCh at HQ ⊢
  unfold v3
  cases hc : chB n a d s with
  | false =>
    rw [hc] at HQ
    have HF : Hid (owedV n a d s u o = (0, false)) := owedV_not fun h => chB_not hc h.1
    go_enter Try.func19, Try.ntmps19
    go_wp2_with fail
    refine (unhide HQ _).mono ?_
    rintro e w1 ⟨rfl, hb⟩
    replace HO1 := hide ((unhide HO1).step hb)
    replace HO2 := hide ((unhide HO2).step hb)
    replace HW := hide (Below.step (unhide HW) hb)
    clear hb HQ
    simp only [World.size_alloc] at HO2
    have c0 := (unhide HO1).cell (i := 0) rfl
    have c1 := (unhide HO1).cell (i := 1) rfl
    have c2 := (unhide HO1).cell (i := 2) rfl
    have c3 := (unhide HO1).cell (i := 3) rfl
    have k0 := (unhide HO2).cell (i := 0) rfl
    have k1 := (unhide HO2).cell (i := 1) rfl
    clear HO1 HO2
    go_wp2
    refine bodyPost_ret (v := .tuple #[.int .i64 0, .bool false]) (by simp [results, Try.results19, go_sem]) rfl ⟨ret_ib (unhide HF), unhide HW⟩
  | true =>
  rw [hc] at HQ
  obtain ⟨⟨a0, a1⟩, ⟨a2, a3⟩, ⟨a4, a5⟩, a6, a7⟩ := chB_iff.1 hc
  cases h1 : inB u 0 a with
  | false =>
    have HF : Hid (owedV n a d s u o = (0, false)) := owedV_not fun h => by have := h.2.1; rw [inB_mk this.1 this.2] at h1; cases h1
    go_enter Try.func19, Try.ntmps19
    go_wp2_with fail
    refine (unhide HQ _).mono ?_
    rintro e w1 ⟨rfl, hb⟩
    replace HO1 := hide ((unhide HO1).step hb)
    replace HO2 := hide ((unhide HO2).step hb)
    replace HW := hide (Below.step (unhide HW) hb)
    clear hb HQ
    simp only [World.size_alloc] at HO2
    have c0 := (unhide HO1).cell (i := 0) rfl
    have c1 := (unhide HO1).cell (i := 1) rfl
    have c2 := (unhide HO1).cell (i := 2) rfl
    have c3 := (unhide HO1).cell (i := 3) rfl
    have k0 := (unhide HO2).cell (i := 0) rfl
    have k1 := (unhide HO2).cell (i := 1) rfl
    clear HO1 HO2
    go_wp2_with (go_at_call 43; refine (within_any _ _ _ _).mono ?_; rintro e w9 ⟨rfl, h9⟩; have h8 := h9.symm; subst h8; clear h9)
    refine bodyPost_ret (v := .tuple #[.int .i64 0, .bool false]) (by simp [results, Try.results19, go_sem]) rfl ⟨ret_ib (unhide HF), unhide HW⟩
  | true =>
  have hu := inB_true h1
  cases h2 : inB o 0 100000000 with
  | false =>
    have HF : Hid (owedV n a d s u o = (0, false)) := owedV_not fun h => by have := h.2.2.1; rw [inB_mk this.1 this.2] at h2; cases h2
    go_enter Try.func19, Try.ntmps19
    go_wp2_with fail
    refine (unhide HQ _).mono ?_
    rintro e w1 ⟨rfl, hb⟩
    replace HO1 := hide ((unhide HO1).step hb)
    replace HO2 := hide ((unhide HO2).step hb)
    replace HW := hide (Below.step (unhide HW) hb)
    clear hb HQ
    simp only [World.size_alloc] at HO2
    have c0 := (unhide HO1).cell (i := 0) rfl
    have c1 := (unhide HO1).cell (i := 1) rfl
    have c2 := (unhide HO1).cell (i := 2) rfl
    have c3 := (unhide HO1).cell (i := 3) rfl
    have k0 := (unhide HO2).cell (i := 0) rfl
    have k1 := (unhide HO2).cell (i := 1) rfl
    clear HO1 HO2
    go_wp2_with (go_at_call 43; refine (within_any _ _ _ _).mono ?_; rintro e w9 ⟨rfl, h9⟩; have h8 := h9.symm; subst h8; clear h9)
    refine bodyPost_ret (v := .tuple #[.int .i64 0, .bool false]) (by simp [results, Try.results19, go_sem]) rfl ⟨ret_ib (unhide HF), unhide HW⟩
  | true =>
  have ho := inB_true h2
  obtain ⟨u0, u1⟩ := hu
  obtain ⟨o0, o1⟩ := ho
  by_cases h3 : 0 < o
  · have e3 : (o == 0) = false := by simp; omega
    have d3 : decide (0 < o) = true := by simpa using h3
    by_cases h4 : u < a
    · have d4 : decide (u < a) = true := by simpa using h4
      have HF : Hid (owedV n a d s u o = (0, false)) := owedV_not fun h => by have := h.2.2.2 h3; omega
      go_enter Try.func19, Try.ntmps19
      go_wp2_with fail
      refine (unhide HQ _).mono ?_
      rintro e w1 ⟨rfl, hb⟩
      replace HO1 := hide ((unhide HO1).step hb)
      replace HO2 := hide ((unhide HO2).step hb)
      replace HW := hide (Below.step (unhide HW) hb)
      clear hb HQ
      simp only [World.size_alloc] at HO2
      have c0 := (unhide HO1).cell (i := 0) rfl
      have c1 := (unhide HO1).cell (i := 1) rfl
      have c2 := (unhide HO1).cell (i := 2) rfl
      have c3 := (unhide HO1).cell (i := 3) rfl
      have k0 := (unhide HO2).cell (i := 0) rfl
      have k1 := (unhide HO2).cell (i := 1) rfl
      clear HO1 HO2
      go_wp2_with (go_at_call 43; refine (within_any _ _ _ _).mono ?_; rintro e w9 ⟨rfl, h9⟩; have h8 := h9.symm; subst h8; clear h9)
      refine bodyPost_ret (v := .tuple #[.int .i64 0, .bool false]) (by simp [results, Try.results19, go_sem]) rfl ⟨ret_ib (unhide HF), unhide HW⟩
    · have d4 : decide (u < a) = false := by simpa using h4
      have hp := owed_bd o0 o1 a4 a5
      have HF : Hid (owedV n a d s u o = (o * d / 1440, true)) := by show _ = _; rw [owedV, if_pos ⟨chB_iff.1 hc, ⟨u0, u1⟩, ⟨o0, o1⟩, fun _ => by omega⟩, if_pos h3]
      obtain ⟨pd, epd⟩ : ∃ x, x = o * d := ⟨_, rfl⟩
      rw [← epd] at HF hp
      have EM : IntKind.i64.wrap (o * d) = pd := by rw [← epd, IntKind.wrap_i64]; omega
      have q1 := Int.tdiv_eq_ediv_of_nonneg (a := pd) (b := 1440) hp.1
      have hq : 0 ≤ pd / 1440 ∧ pd / 1440 ≤ 100000000000000000 := by omega
      clear epd
      go_enter Try.func19, Try.ntmps19
      go_wp2_with fail
      refine (unhide HQ _).mono ?_
      rintro e w1 ⟨rfl, hb⟩
      replace HO1 := hide ((unhide HO1).step hb)
      replace HO2 := hide ((unhide HO2).step hb)
      replace HW := hide (Below.step (unhide HW) hb)
      clear hb HQ
      simp only [World.size_alloc] at HO2
      have c0 := (unhide HO1).cell (i := 0) rfl
      have c1 := (unhide HO1).cell (i := 1) rfl
      have c2 := (unhide HO1).cell (i := 2) rfl
      have c3 := (unhide HO1).cell (i := 3) rfl
      have k0 := (unhide HO2).cell (i := 0) rfl
      have k1 := (unhide HO2).cell (i := 1) rfl
      clear HO1 HO2
      go_wp2_with (go_at_call 43; refine (within_any _ _ _ _).mono ?_; rintro e w9 ⟨rfl, h9⟩; have h8 := h9.symm; subst h8; clear h9)
      refine bodyPost_ret (v := .tuple #[.int .i64 (pd / 1440), .bool true]) (by simp [results, Try.results19, go_sem]) rfl ⟨ret_ib (unhide HF), unhide HW⟩
  · have ez : o = 0 := by omega
    have e3 : (o == 0) = true := by simp; omega
    have d3 : decide (0 < o) = false := by simpa using h3
    have hp := owed_bd (x := a - u) (by omega) (by omega) a6 a7
    have HF : Hid (owedV n a d s u o = (-((a - u) * s / 1440), true)) := by show _ = _; rw [owedV, if_pos ⟨chB_iff.1 hc, ⟨u0, u1⟩, ⟨o0, o1⟩, fun _ => by omega⟩, if_neg h3]
    obtain ⟨pd, epd⟩ : ∃ x, x = (a - u) * s := ⟨_, rfl⟩
    rw [← epd] at HF hp
    have EM : IntKind.i64.wrap ((a - u) * s) = pd := by rw [← epd, IntKind.wrap_i64]; omega
    have q1 := Int.tdiv_eq_ediv_of_nonneg (a := pd) (b := 1440) hp.1
    have hq : 0 ≤ pd / 1440 ∧ pd / 1440 ≤ 100000000000000000 := by omega
    clear epd ez
    go_enter Try.func19, Try.ntmps19
    go_wp2_with fail
    refine (unhide HQ _).mono ?_
    rintro e w1 ⟨rfl, hb⟩
    replace HO1 := hide ((unhide HO1).step hb)
    replace HO2 := hide ((unhide HO2).step hb)
    replace HW := hide (Below.step (unhide HW) hb)
    clear hb HQ
    simp only [World.size_alloc] at HO2
    have c0 := (unhide HO1).cell (i := 0) rfl
    have c1 := (unhide HO1).cell (i := 1) rfl
    have c2 := (unhide HO1).cell (i := 2) rfl
    have c3 := (unhide HO1).cell (i := 3) rfl
    have k0 := (unhide HO2).cell (i := 0) rfl
    have k1 := (unhide HO2).cell (i := 1) rfl
    clear HO1 HO2
    go_wp2_with (go_at_call 43; refine (within_any _ _ _ _).mono ?_; rintro e w9 ⟨rfl, h9⟩; have h8 := h9.symm; subst h8; clear h9)
    refine bodyPost_ret (v := .tuple #[.int .i64 (-(pd / 1440)), .bool true]) (by simp [results, Try.results19, go_sem]) rfl ⟨ret_ib (unhide HF), unhide HW⟩


end Go.Proofs.Yticminoejikdfaa
