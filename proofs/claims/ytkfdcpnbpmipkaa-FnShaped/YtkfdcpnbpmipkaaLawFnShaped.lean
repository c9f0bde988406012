/- FnShaped, walked: a plan comes to its way by pushes as great as may be, and shaped pushes leave a load that hung still hanging still. Written by wip/mkfsh.py. -/
import Derived.Test.YtkfdcpnbpmipkaaBtA
import Derived.Test.YtkfdcpnbpmipkaaAtFix
import Derived.Test.YtkfdcpnbpmipkaaOwnInts
import Derived.Laws.StructEq
import Derived.Deep.RegionHeld3
import Derived.Deep.DeepCutAuto
import Derived.Deep.Cut
namespace Go.Proofs.Ytkfdcpnbpmipkaa
open Go.RowKit

theorem lawSize_any (x : Int) (w : World) (h0 : -9223372036854775807 ≤ x) (h1 : x ≤ 9223372036854775807) : Calls Try.prog 10 #[.int .i64 x] w fun e w' => e = .returned (.int .i64 x.natAbs) ∧ w = w' := by
  by_cases hx : x < 0
  · go_enter Try.func10, Try.ntmps10
    go_wp2
    go_ret
    exact ⟨ret_int (by omega), rfl⟩
  · go_enter Try.func10, Try.ntmps10
    go_wp2
    go_ret
    exact ⟨ret_int (by omega), rfl⟩
theorem Try.heldSwayQ : Try.prog.stoodInHeld 31 = false := by kernel_rfl
theorem eql_sway (x0 x1 x2 : Int) (w : World) : (binOp .eql 31 (.agg #[.int .i64 x0, .int .i64 x1, .int .i64 x2]) (.agg #[.int .i64 x0, .int .i64 x1, .int .i64 x2])).run Try.prog w = .ok (.bool true) w := by
  rw [run_eql_struct, run_equalIn_agg _ _ _ _ _ (by rw [Program.fieldsOf, Try.underlying31]) Try.heldSwayQ]
  simp [go_sem, Program.fieldsOf, Try.underlying31, Try.underlying3]
theorem swing10_any (W : World) : Calls Try.prog 13 #[.agg #[.int .i64 0, .int .i64 0, .int .i64 0], .int .i64 10] W fun e w' => e = .returned (.tuple #[.agg #[.int .i64 10, .int .i64 0, .int .i64 10], .bool true]) ∧ Below W.heap.size W w' := by
  have h := implSwing1_any 0 0 0 10 W
  have e : swgB 0 0 0 10 = true := by decide +kernel
  unfold swgV at h
  rw [e, cond_true] at h
  exact h
theorem swayOk10_any (W : World) : Calls Try.prog 14 #[.agg #[.int .i64 10, .int .i64 0, .int .i64 10]] W fun e w' => e = .returned (.bool true) ∧ Below W.heap.size W w' := by
  have h := implSwayOk_any 10 0 10 W
  have e : swB 10 0 10 = true := by decide +kernel
  rw [e] at h
  exact h
/-- What a plan of these bytes is. -/
theorem plan_of (x0 x1 : Int) (h0 : 0 ≤ x0 ∧ x0 ≤ 255) (h1 : 0 ≤ x1 ∧ x1 ≤ 255) {l m : Int} (el : l = 2 * (x0 * 9 - 1100)) (em : m = 2 * (30 + x1)) :
    (plOk l m = false → (m * 38 < (l.natAbs : Int))) ∧ (plOk l m = true → plN m l ≤ 38 ∧ plL l m = plK m l (plN m l) ∧ puOk (plK m l (plN m l)) = true) ∧ l % 2 = 0 ∧ m % 2 = 0 ∧ (-2200 ≤ l ∧ l ≤ 2390) ∧ 60 ≤ m ∧ m ≤ 570 := by
  have hl2 : l % 2 = 0 := by omega
  have hm2 : m % 2 = 0 := by omega
  have hlb : -2200 ≤ l ∧ l ≤ 2390 := by omega
  have hmb : 60 ≤ m ∧ m ≤ 570 := by omega
  have hev : ∀ x : Int, x % 2 = 0 → (x.tmod 2 == 0) = true := fun x hx => by
    rw [beq_iff_eq, Int.tmod_eq_zero_of_dvd (Int.dvd_of_emod_eq_zero hx)]
  have hin : plIn l m = true := by
    unfold plIn
    rw [inB_mk (by omega) (by omega), inB_mk (by omega) (by omega), hev l hl2, hev m hm2]
    rfl
  refine ⟨fun h => ?_, fun h => ?_, hl2, hm2, hlb, hmb⟩
  · unfold plOk at h
    rw [hin, Bool.true_and, decide_eq_false_iff_not] at h
    have h38 : 38 < plN m l := by omega
    rw [lt_plN (by omega)] at h38
    have ha := lf_abs (m := m) (l := l) (by omega) 38
    omega
  · have hn : plN m l ≤ 38 := by
      unfold plOk at h
      rw [hin, Bool.true_and, decide_eq_true_eq] at h
      exact h
    refine ⟨hn, by unfold plL; rw [h]; rfl, ?_⟩
    unfold puOk
    rw [plK_len, decide_eq_true hn, Bool.true_and]
    rw [List.all_eq_true]
    intro x hx
    unfold plK at hx
    rw [List.mem_map] at hx
    obtain ⟨i, _, rfl⟩ := hx
    have c1 := clp_le (x := lf m l i) (m := m) (by omega)
    have c2 := clp_even (x := lf m l i) hm2 (lf_even hm2 hl2 i)
    unfold okPu
    rw [inB_mk (by omega) (by omega), hev _ c2]
    rfl

set_option maxRecDepth 100000 in
set_option maxHeartbeats 16000000 in
theorem fnShaped_any (v : Value) (nb : Nat) (w : World) (h : BytesIn w.heap.size w v nb) :
    Calls Try.prog 3 #[v] w fun e w' => e = .returned (.bool true) ∧ Below w.heap.size w w' := by
  have HBY := hide h
  obtain ⟨vao, vcap, rfl, hvl, hvm, _⟩ := h
  unfold maxLen at hvm
  have Q0 := hide fun W => big_any vao nb vcap W
  by_cases hbig : 1048576 < nb
  · have d0 : decide ((1048576 : Int) < (nb : Int)) = true := by simp; omega
    rw [d0] at Q0
    go_enter Try.func3, Try.ntmps3
    go_wp2_with fail
    refine (unhide Q0 _).mono ?_
    rintro e w' ⟨rfl, rfl⟩
    go_wp2
    go_ret
    exact ⟨rfl, Below.refl _ _⟩
  have d0 : decide ((1048576 : Int) < (nb : Int)) = false := by simp; omega
  rw [d0] at Q0
  obtain ⟨x0, x00, x01, A0⟩ := at_fix _ nb 0 w (unhide HBY) (by omega) (by omega)
  obtain ⟨x1, x10, x11, A1⟩ := at_fix _ nb 1 w (unhide HBY) (by omega) (by omega)
  obtain ⟨x2, x20, x21, A2⟩ := at_fix _ nb 2 w (unhide HBY) (by omega) (by omega)
  replace A0 := hide A0
  replace A1 := hide A1
  replace A2 := hide A2
  obtain ⟨l, el⟩ : ∃ l, l = 2 * (x0 * 9 - 1100) := ⟨_, rfl⟩
  obtain ⟨m, em⟩ : ∃ m, m = 2 * (30 + x1) := ⟨_, rfl⟩
  obtain ⟨hbad, hgood, hl2, hm2, hlb, hmb⟩ := plan_of x0 x1 ⟨x00, x01⟩ ⟨x10, x11⟩ el em
  have HBAD := hide hbad
  have HGOOD := hide hgood
  have HP := hide fun W => implPlan_any l m W
  clear hbad hgood d0 hbig hvl hvm HBY
  go_enter Try.func3, Try.ntmps3
  go_wp2_with fail
  refine (unhide Q0 _).mono ?_
  rintro e w' ⟨rfl, rfl⟩
  clear Q0
  go_wp2_with fail
  refine (unhide A0 _ (Below.refl _ _)).mono ?_
  rintro e w' ⟨rfl, rfl⟩
  go_wp2_with fail
  refine (unhide A1 _ (Below.refl _ _)).mono ?_
  rintro e w' ⟨rfl, rfl⟩
  go_upto_region 4 with (fail)
  rw [← el, ← em]
  clear A0 A1 el em
  go_wp2_with fail
  refine (unhide HP _).mono ?_
  rintro e W4 ⟨ao, n4, cp, rfl, ho, hb⟩
  have HW := hide hb
  clear HP hb
  obtain ⟨ao', cp', et, h1, h2, h3⟩ := ho
  simp only [Value.slice.injEq] at et
  obtain ⟨rfl, rfl, rfl⟩ := et
  unfold maxLen at h2
  have HL := hide (OwnSl.intsIn (B := w'.heap.size) ⟨ao, cp, rfl, h1, (by unfold maxLen; omega), h3⟩)
  clear h3
  cases hok : plOk l m with
  | false =>
    have hlt := unhide HBAD hok
    have QS := hide fun W => lawSize_any l W (by omega) (by omega)
    obtain ⟨z, ez⟩ : ∃ z : Int, z = l.natAbs := ⟨_, rfl⟩
    rw [← ez] at QS hlt
    have dz : decide (m * 38 < z) = true := decide_eq_true hlt
    clear ez
    go_wp2_with fail
    refine (unhide QS _).mono ?_
    rintro e w8 ⟨rfl, rfl⟩
    go_wp2
    go_ret
    exact ⟨rfl, unhide HW⟩
  | true =>
  obtain ⟨hn38, ePL, hpu⟩ := unhide HGOOD hok
  have hlen : (plL l m).length = plN m l := by rw [ePL, plK_len]
  have HFULL : Hid (∀ i, i + 1 < plN m l → (clp (lf m l i) m).natAbs = m.natAbs) := by
    show ∀ i, _
    intro i hi
    rcases clp_full ((lt_plN (by omega) (i + 1)).1 hi) with e | e <;> omega
  have HSUM : Hid (lf m l (plN m l) = 0) := lf_past (by omega) (Nat.le_refl _)
  rw [ePL] at HL h1 hlen ⊢
  have HPU := hide hpu
  clear HBAD HGOOD hok hpu ePL
  obtain ⟨n, en⟩ : ∃ n, n = plN m l := ⟨_, rfl⟩
  have HBT : Hid (∀ a0 : Int, -1000 ≤ a0 ∧ a0 ≤ 1000 → btV a0 0 0 (puV (plK m l n) n) = (true, a0 + l, 0, 0)) := by
    show ∀ a0 : Int, _
    intro a0 ha
    rw [en]
    exact bt_plan (by omega) hm2 hl2 (by omega) hn38 a0 ha
  rw [← en] at HFULL HSUM hn38 hlen HL h1 HPU
  rw [plK_len, ← en]
  rw [plK_len] at h1
  clear en hlen
  rw [plK_len] at HL
  have QSh := hide fun W (hW : Below W4.heap.size W4 W) => implShaped_any _ (plK m l n) W ((unhide HL).below hW)
  go_wp2_with fail
  go_loopg [7, 8] n (fun gh sv iv wr => ∃ k : Nat, k ≤ n ∧ gh = n - k ∧ sv = .int .i64 (l - lf m l k) ∧ iv = .int .i64 k ∧ W4 = wr)
  case atStart => exact ⟨0, Nat.zero_le _, rfl, by show _ = Value.int .i64 (l - l); rw [Int.sub_self], rfl, rfl⟩
  case round =>
    obtain ⟨k, hk, rfl, rfl, rfl, rfl⟩ := hrel
    have hf1 := lf_bd (m := m) (l := l) (by omega) (by omega) k
    by_cases hkn : k < n
    case pos =>
      have hki : (k : Int) < (n : Int) := by omega
      have dki : decide ((k : Int) < (n : Int)) = true := decide_eq_true hki
      obtain ⟨b, o, eao, hc⟩ := intAt (unhide HL) hkn
      subst eao
      rw [plK_get, if_pos hkn] at hc
      have hcl := clp_le (x := lf m l k) (m := m) (by omega)
      have hst : l - lf m l (k + 1) = l - lf m l k + clp (lf m l k) m := by show l - (lf m l k - clp (lf m l k) m) = _; omega
      have hfu := unhide HFULL k
      have hf2 := lf_bd (m := m) (l := l) (by omega) (by omega) (k + 1)
      obtain ⟨c, ec⟩ : ∃ c, c = clp (lf m l k) m := ⟨_, rfl⟩
      rw [← ec] at hc hcl hst hfu
      obtain ⟨t, et⟩ : ∃ t, t = l - lf m l k := ⟨_, rfl⟩
      rw [← et] at hst ⊢
      have htb : -20000 ≤ t ∧ t ≤ 20000 := by omega
      have HST := hide hst
      have QS := hide fun W => lawSize_any c W (by omega) (by omega)
      obtain ⟨z, ez⟩ : ∃ z : Int, z = c.natAbs := ⟨_, rfl⟩
      rw [← ez] at QS
      have hzm : ¬ (m < z) := by omega
      have dzm : decide (m < z) = false := decide_eq_false hzm
      by_cases hk1 : k + 1 < n
      · have hki1 : (k : Int) + 1 < (n : Int) := by omega
        have dk1 : decide ((k : Int) + 1 < (n : Int)) = true := decide_eq_true hki1
        have hzz : z = m := by have := hfu hk1; omega
        subst hzz
        have HBN := hide (show (z != z) = false by simp)
        clear hfu hst ec ez et
        go_upto_region 12 with (fail)
        go_wp2_with fail
        refine (unhide QS _).mono ?_
        rintro e w8 ⟨rfl, rfl⟩
        go_wp2_with fail
        refine (unhide QS _).mono ?_
        rintro e w8 ⟨rfl, rfl⟩
        go_wp2_with fail
        go_roundg (n - (k + 1))
        case measure => omega
        case rel => exact ⟨k + 1, by omega, rfl, by rw [unhide HST], by go_num, rfl⟩
      · have hki1 : ¬ ((k : Int) + 1 < (n : Int)) := by omega
        have dk1 : decide ((k : Int) + 1 < (n : Int)) = false := decide_eq_false hki1
        clear hfu hst ec ez et
        go_upto_region 12 with (fail)
        go_wp2_with fail
        refine (unhide QS _).mono ?_
        rintro e w8 ⟨rfl, rfl⟩
        go_wp2_with fail
        go_roundg (n - (k + 1))
        case measure => omega
        case rel => exact ⟨k + 1, by omega, rfl, by rw [unhide HST], by go_num, rfl⟩
    case neg =>
    have hki : ¬ ((k : Int) < (n : Int)) := by omega
    have dki : decide ((k : Int) < (n : Int)) = false := decide_eq_false hki
    obtain rfl : k = n := by omega
    rw [unhide HSUM, Int.sub_zero]
    clear hf1 HFULL HSUM
    rw [unhide HPU] at QSh
    clear hk hkn
    go_upto_region 14 with (fail)
    go_wp2_with fail
    skip
    refine (unhide QSh _ (Below.refl _ _)).mono ?_
    rintro e W5 ⟨ab, n5, cb, rfl, ho, hb⟩
    replace HW := hide (Below.step (unhide HW) hb)
    have HI5 := hide ho.intsIn
    obtain ⟨ab', cb', et, g1, g2, g3⟩ := ho
    simp only [Value.slice.injEq] at et
    obtain ⟨rfl, rfl, rfl⟩ := et
    clear g3 hb QSh
    have ePU : puL (plK m l k) = puV (plK m l k) k := by unfold puL; rw [unhide HPU, cond_true, plK_len]
    rw [ePU, puV_len, plK_len] at g1 ⊢
    have e9 : (puV (plK m l k) k).length = k + 2 := by rw [puV_len, plK_len]
    rw [ePU, e9] at HI5
    clear e9
    clear ePU HPU
    unfold maxLen at g2
    have hlq : ((l != l) = false) := by simp
    have QB := hide fun W (hW : Below W5.heap.size W5 W) => implBeats_any x2 0 0 _ _ W ((unhide HI5).below hW)
    rw [unhide HBT x2 (by omega)] at QB
    unfold btS vSway at QB
    dsimp only at QB
    have QT : Hid (∀ W, Calls Try.prog 13 #[.agg #[.int .i64 0, .int .i64 0, .int .i64 0], .int .i64 10] W fun e w' => e = .returned (.tuple #[.agg #[.int .i64 10, .int .i64 0, .int .i64 10], .bool true]) ∧ Below W.heap.size W w') := fun W => swing10_any W
    have QK : Hid (∀ W, Calls Try.prog 14 #[.agg #[.int .i64 10, .int .i64 0, .int .i64 10]] W fun e w' => e = .returned (.bool true) ∧ Below W.heap.size W w') := fun W => swayOk10_any W
    go_upto_region 17 with (fail)
    go_wp2_with fail
    refine (unhide A2 _ (unhide HW)).mono ?_
    rintro e w8 ⟨rfl, rfl⟩
    go_wp2_with fail
    refine (unhide QB _ (Below.refl _ _)).mono ?_
    rintro e W6 ⟨rfl, hb⟩
    replace HW := hide (Below.step (unhide HW) hb)
    clear hb QB
    obtain ⟨gs, egs⟩ : ∃ g, g = W6.heap.size := ⟨_, rfl⟩
    obtain ⟨V6, eV6⟩ : ∃ V, V = W6.alloc (.cells #[.int .i64 (x2 + l), .int .i64 0, .int .i64 0] 31) := ⟨_, rfl⟩
    have hb : Below W6.heap.size W6 V6 := by rw [eV6]; exact Below.alloc1 _ _
    have HX : Hid (OwnV V6 gs [.int .i64 (x2 + l), .int .i64 0, .int .i64 0]) := by rw [eV6, egs]; exact ownV_alloc _ _ _
    replace HW := hide (Below.step (unhide HW) hb)
    clear hb
    go_upto_region 18 with (fail)
    rw [← eV6, ← egs]
    clear eV6 egs
    go_wp2_with fail
    refine (unhide QT _).mono ?_
    rintro e W7 ⟨rfl, hb⟩
    replace HW := hide (Below.step (unhide HW) hb)
    replace HX := hide ((unhide HX).step hb)
    clear hb QT
    obtain ⟨gt, egt⟩ : ∃ g, g = W7.heap.size := ⟨_, rfl⟩
    obtain ⟨V8, eV8⟩ : ∃ V, V = W7.alloc (.cells #[.int .i64 10, .int .i64 0, .int .i64 10] 31) := ⟨_, rfl⟩
    have hb : Below W7.heap.size W7 V8 := by rw [eV8]; exact Below.alloc1 _ _
    have HY : Hid (OwnV V8 gt [.int .i64 10, .int .i64 0, .int .i64 10]) := by rw [eV8, egt]; exact ownV_alloc _ _ _
    replace HW := hide (Below.step (unhide HW) hb)
    replace HX := hide ((unhide HX).step hb)
    clear hb
    go_upto_region 19 with (fail)
    rw [← eV8, ← egt]
    clear eV8 egt
    have HQE := hide fun W => eql_sway (x2 + l) 0 0 W
    have hwr : IntKind.i64.wrap (x2 + l) = x2 + l := by rw [IntKind.wrap_i64]; omega
    have HWR := hide hwr
    clear hwr
    obtain ⟨wd, ewd⟩ : ∃ z, z = V8.drew := ⟨_, rfl⟩
    have hb : Below V8.heap.size V8 wd := by rw [ewd]; exact (Below.refl _ _).drew
    replace HW := hide (Below.step (unhide HW) hb)
    replace HX := hide ((unhide HX).step hb)
    replace HY := hide ((unhide HY).step hb)
    clear hb
    refine wp_region_held_drew (S := fun w' => w'.cell? ⟨gs, 0, none⟩ = some (.int .i64 (x2 + l)) ∧ w'.cell? ⟨gs, 1, none⟩ = some (.int .i64 0) ∧ w'.cell? ⟨gs, 2, none⟩ = some (.int .i64 0) ∧ w'.cell? ⟨gt, 0, none⟩ = some (.int .i64 10) ∧ w'.cell? ⟨gt, 1, none⟩ = some (.int .i64 0) ∧ w'.cell? ⟨gt, 2, none⟩ = some (.int .i64 10)) (by kernel_rfl) ⟨by rw [← ewd]; exact (unhide HX).cell (i := 0) rfl, by rw [← ewd]; exact (unhide HX).cell (i := 1) rfl, by rw [← ewd]; exact (unhide HX).cell (i := 2) rfl, by rw [← ewd]; exact (unhide HY).cell (i := 0) rfl, by rw [← ewd]; exact (unhide HY).cell (i := 1) rfl, by rw [← ewd]; exact (unhide HY).cell (i := 2) rfl⟩ (fun hHeld => ?_)
    rw [← ewd] at hHeld ⊢
    clear ewd
    refine wpAnyH_take (i := 0) (v := ?_) rfl (by kernel_rfl) (by kernel_rfl) (by kernel_rfl) (fun _ _ _ h => h) (Or.inl ⟨by rfl, ?_⟩) (by assumption) ?_
    rotate_left
    · intro wy hSw
      obtain ⟨hS0, hS1, hS2, hS3, hS4, hS5⟩ := hSw
      go_simp
      try with_reducible rfl
    try simp only [Act.put, List.getElem_toArray, List.getElem_cons_zero, List.setIfInBounds_toArray, List.set_cons_zero, List.set_cons_succ]
    refine wpAnyH_take (i := 1) (v := ?_) rfl (by kernel_rfl) (by kernel_rfl) (by kernel_rfl) (fun _ _ _ h => h) (Or.inl ⟨by rfl, ?_⟩) (by assumption) ?_
    rotate_left
    · intro wy hSw
      obtain ⟨hS0, hS1, hS2, hS3, hS4, hS5⟩ := hSw
      go_simp
      try with_reducible rfl
    try simp only [Act.put, List.getElem_toArray, List.getElem_cons_succ, List.getElem_cons_zero, List.setIfInBounds_toArray, List.set_cons_zero, List.set_cons_succ]
    refine wpAnyH_take (i := 2) (v := ?_) rfl (by kernel_rfl) (by kernel_rfl) (by kernel_rfl) (fun _ _ _ h => h) (Or.inl ⟨by rfl, ?_⟩) (by assumption) ?_
    rotate_left
    · intro wy hSw
      obtain ⟨hS0, hS1, hS2, hS3, hS4, hS5⟩ := hSw
      go_simp
      try with_reducible rfl
    try simp only [Act.put, List.getElem_toArray, List.getElem_cons_succ, List.getElem_cons_zero, List.setIfInBounds_toArray, List.set_cons_zero, List.set_cons_succ]
    refine wpAnyH_take (i := 3) (v := ?_) rfl (by kernel_rfl) (by kernel_rfl) (by kernel_rfl) (fun _ _ _ h => h) (Or.inl ⟨by rfl, ?_⟩) (by assumption) ?_
    rotate_left
    · intro wy hSw
      obtain ⟨hS0, hS1, hS2, hS3, hS4, hS5⟩ := hSw
      go_simp
      try with_reducible rfl
    try simp only [Act.put, List.getElem_toArray, List.getElem_cons_succ, List.getElem_cons_zero, List.setIfInBounds_toArray, List.set_cons_zero, List.set_cons_succ]
    refine wpAnyH_take (i := 5) (v := ?_) rfl (by kernel_rfl) (by kernel_rfl) (by kernel_rfl) (fun _ _ _ h => h) (Or.inl ⟨by rfl, ?_⟩) (by assumption) ?_
    rotate_left
    · intro wy hSw
      obtain ⟨hS0, hS1, hS2, hS3, hS4, hS5⟩ := hSw
      go_simp
      try with_reducible rfl
    try simp only [Act.put, List.getElem_toArray, List.getElem_cons_succ, List.getElem_cons_zero, List.setIfInBounds_toArray, List.set_cons_zero, List.set_cons_succ]
    refine wpAnyH_ready (rs := [4]) (by kernel_rfl) (by simp) ?_
    refine AllReadyH.cons rfl (fun K hK => ?_) AllReadyH.nil
    go_simp
    refine (unhide A2 _ (unhide HW)).mono ?_
    rintro e W' ⟨rfl, rfl⟩
    refine hK.out _ _ ⟨(unhide HX).cell (i := 0) rfl, (unhide HX).cell (i := 1) rfl, (unhide HX).cell (i := 2) rfl, (unhide HY).cell (i := 0) rfl, (unhide HY).cell (i := 1) rfl, (unhide HY).cell (i := 2) rfl⟩ (fun hHeld => ?_)
    clear hK K
    try simp only [Act.put, List.setIfInBounds_toArray, List.set_cons_zero, List.set_cons_succ]
    refine wpAnyH_take (i := 6) (v := .int .i64 (x2 + l)) rfl (by kernel_rfl) (by kernel_rfl) (by kernel_rfl) (fun _ _ _ h => h) (Or.inl ⟨by rfl, ?_⟩) (by assumption) ?_
    · intro wy hSw
      obtain ⟨hS0, hS1, hS2, hS3, hS4, hS5⟩ := hSw
      have hq := unhide HWR
      go_simp
      first | done | (rw [hq]) | exact hq | exact hq.symm
    try simp only [Act.put, List.getElem_toArray, List.getElem_cons_succ, List.getElem_cons_zero, List.setIfInBounds_toArray, List.set_cons_zero, List.set_cons_succ]
    refine wpAnyH_take (i := 7) (v := ?_) rfl (by kernel_rfl) (by kernel_rfl) (by kernel_rfl) (fun _ _ _ h => h) (Or.inl ⟨by rfl, ?_⟩) (by assumption) ?_
    rotate_left
    · intro wy hSw
      obtain ⟨hS0, hS1, hS2, hS3, hS4, hS5⟩ := hSw
      go_simp
      try with_reducible rfl
    try simp only [Act.put, List.getElem_toArray, List.getElem_cons_succ, List.getElem_cons_zero, List.setIfInBounds_toArray, List.set_cons_zero, List.set_cons_succ]
    refine wpAnyH_take (i := 8) (v := .bool true) rfl (by kernel_rfl) (by kernel_rfl) (by kernel_rfl) (fun _ _ _ h => h) (Or.inl ⟨by rfl, ?_⟩) (by assumption) ?_
    · intro wy hSw
      obtain ⟨hS0, hS1, hS2, hS3, hS4, hS5⟩ := hSw
      have hq := unhide HQE wy
      go_simp
      first | done | rw [hq]
    try simp only [Act.put, List.getElem_toArray, List.getElem_cons_succ, List.getElem_cons_zero, List.setIfInBounds_toArray, List.set_cons_zero, List.set_cons_succ]
    refine wpAnyH_take (i := 9) (v := ?_) rfl (by kernel_rfl) (by kernel_rfl) (by kernel_rfl) (fun _ _ _ h => h) (Or.inl ⟨by rfl, ?_⟩) (by assumption) ?_
    rotate_left
    · intro wy hSw
      obtain ⟨hS0, hS1, hS2, hS3, hS4, hS5⟩ := hSw
      go_simp
      try with_reducible rfl
    try simp only [Act.put, List.getElem_toArray, List.getElem_cons_succ, List.getElem_cons_zero, List.setIfInBounds_toArray, List.set_cons_zero, List.set_cons_succ]
    refine wpAnyH_take (i := 10) (v := ?_) rfl (by kernel_rfl) (by kernel_rfl) (by kernel_rfl) (fun _ _ _ h => h) (Or.inl ⟨by rfl, ?_⟩) (by assumption) ?_
    rotate_left
    · intro wy hSw
      obtain ⟨hS0, hS1, hS2, hS3, hS4, hS5⟩ := hSw
      go_simp
      try with_reducible rfl
    try simp only [Act.put, List.getElem_toArray, List.getElem_cons_succ, List.getElem_cons_zero, List.setIfInBounds_toArray, List.set_cons_zero, List.set_cons_succ]
    refine wpAnyH_take (i := 11) (v := ?_) rfl (by kernel_rfl) (by kernel_rfl) (by kernel_rfl) (fun _ _ _ h => h) (Or.inl ⟨by rfl, ?_⟩) (by assumption) ?_
    rotate_left
    · intro wy hSw
      obtain ⟨hS0, hS1, hS2, hS3, hS4, hS5⟩ := hSw
      go_simp
      try with_reducible rfl
    try simp only [Act.put, List.getElem_toArray, List.getElem_cons_succ, List.getElem_cons_zero, List.setIfInBounds_toArray, List.set_cons_zero, List.set_cons_succ]
    refine wpAnyH_take (i := 12) (v := ?_) rfl (by kernel_rfl) (by kernel_rfl) (by kernel_rfl) (fun _ _ _ h => h) (Or.inl ⟨by rfl, ?_⟩) (by assumption) ?_
    rotate_left
    · intro wy hSw
      obtain ⟨hS0, hS1, hS2, hS3, hS4, hS5⟩ := hSw
      go_simp
      try with_reducible rfl
    try simp only [Act.put, List.getElem_toArray, List.getElem_cons_succ, List.getElem_cons_zero, List.setIfInBounds_toArray, List.set_cons_zero, List.set_cons_succ]
    refine wpAnyH_take (i := 13) (v := ?_) rfl (by kernel_rfl) (by kernel_rfl) (by kernel_rfl) (fun _ _ _ h => h) (Or.inl ⟨by rfl, ?_⟩) (by assumption) ?_
    rotate_left
    · intro wy hSw
      obtain ⟨hS0, hS1, hS2, hS3, hS4, hS5⟩ := hSw
      go_simp
      try with_reducible rfl
    try simp only [Act.put, List.getElem_toArray, List.getElem_cons_succ, List.getElem_cons_zero, List.setIfInBounds_toArray, List.set_cons_zero, List.set_cons_succ]
    refine wpAnyH_take (i := 14) (v := ?_) rfl (by kernel_rfl) (by kernel_rfl) (by kernel_rfl) (fun _ _ _ h => h) (Or.inl ⟨by rfl, ?_⟩) (by assumption) ?_
    rotate_left
    · intro wy hSw
      obtain ⟨hS0, hS1, hS2, hS3, hS4, hS5⟩ := hSw
      go_simp
      try with_reducible rfl
    try simp only [Act.put, List.getElem_toArray, List.getElem_cons_succ, List.getElem_cons_zero, List.setIfInBounds_toArray, List.set_cons_zero, List.set_cons_succ]
    refine wpAnyH_take (i := 15) (v := ?_) rfl (by kernel_rfl) (by kernel_rfl) (by kernel_rfl) (fun _ _ _ h => h) (Or.inl ⟨by rfl, ?_⟩) (by assumption) ?_
    rotate_left
    · intro wy hSw
      obtain ⟨hS0, hS1, hS2, hS3, hS4, hS5⟩ := hSw
      go_simp
      try with_reducible rfl
    try simp only [Act.put, List.getElem_toArray, List.getElem_cons_succ, List.getElem_cons_zero, List.setIfInBounds_toArray, List.set_cons_zero, List.set_cons_succ]
    refine wpAnyH_take (i := 16) (v := ?_) rfl (by kernel_rfl) (by kernel_rfl) (by kernel_rfl) (fun _ _ _ h => h) (Or.inl ⟨by rfl, ?_⟩) (by assumption) ?_
    rotate_left
    · intro wy hSw
      obtain ⟨hS0, hS1, hS2, hS3, hS4, hS5⟩ := hSw
      go_simp
      try with_reducible rfl
    try simp only [Act.put, List.getElem_toArray, List.getElem_cons_succ, List.getElem_cons_zero, List.setIfInBounds_toArray, List.set_cons_zero, List.set_cons_succ]
    refine wpAnyH_take (i := 17) (v := ?_) rfl (by kernel_rfl) (by kernel_rfl) (by kernel_rfl) (fun _ _ _ h => h) (Or.inl ⟨by rfl, ?_⟩) (by assumption) ?_
    rotate_left
    · intro wy hSw
      obtain ⟨hS0, hS1, hS2, hS3, hS4, hS5⟩ := hSw
      go_simp
      try with_reducible rfl
    try simp only [Act.put, List.getElem_toArray, List.getElem_cons_succ, List.getElem_cons_zero, List.setIfInBounds_toArray, List.set_cons_zero, List.set_cons_succ]
    refine wpAnyH_take (i := 18) (v := ?_) rfl (by kernel_rfl) (by kernel_rfl) (by kernel_rfl) (fun _ _ _ h => h) (Or.inl ⟨by rfl, ?_⟩) (by assumption) ?_
    rotate_left
    · intro wy hSw
      obtain ⟨hS0, hS1, hS2, hS3, hS4, hS5⟩ := hSw
      go_simp
      try with_reducible rfl
    try simp only [Act.put, List.getElem_toArray, List.getElem_cons_succ, List.getElem_cons_zero, List.setIfInBounds_toArray, List.set_cons_zero, List.set_cons_succ]
    refine wpAnyH_take (i := 19) (v := ?_) rfl (by kernel_rfl) (by kernel_rfl) (by kernel_rfl) (fun _ _ _ h => h) (Or.inl ⟨by rfl, ?_⟩) (by assumption) ?_
    rotate_left
    · intro wy hSw
      obtain ⟨hS0, hS1, hS2, hS3, hS4, hS5⟩ := hSw
      go_simp
      try with_reducible rfl
    try simp only [Act.put, List.getElem_toArray, List.getElem_cons_succ, List.getElem_cons_zero, List.setIfInBounds_toArray, List.set_cons_zero, List.set_cons_succ]
    refine wpAnyH_take (i := 20) (v := ?_) rfl (by kernel_rfl) (by kernel_rfl) (by kernel_rfl) (fun _ _ _ h => h) (Or.inl ⟨by rfl, ?_⟩) (by assumption) ?_
    rotate_left
    · intro wy hSw
      obtain ⟨hS0, hS1, hS2, hS3, hS4, hS5⟩ := hSw
      go_simp
      try with_reducible rfl
    try simp only [Act.put, List.getElem_toArray, List.getElem_cons_succ, List.getElem_cons_zero, List.setIfInBounds_toArray, List.set_cons_zero, List.set_cons_succ]
    refine wpAnyH_take (i := 21) (v := ?_) rfl (by kernel_rfl) (by kernel_rfl) (by kernel_rfl) (fun _ _ _ h => h) (Or.inl ⟨by rfl, ?_⟩) (by assumption) ?_
    rotate_left
    · intro wy hSw
      obtain ⟨hS0, hS1, hS2, hS3, hS4, hS5⟩ := hSw
      go_simp
      try with_reducible rfl
    try simp only [Act.put, List.getElem_toArray, List.getElem_cons_succ, List.getElem_cons_zero, List.setIfInBounds_toArray, List.set_cons_zero, List.set_cons_succ]
    refine wpAnyH_take (i := 22) (v := ?_) rfl (by kernel_rfl) (by kernel_rfl) (by kernel_rfl) (fun _ _ _ h => h) (Or.inl ⟨by rfl, ?_⟩) (by assumption) ?_
    rotate_left
    · intro wy hSw
      obtain ⟨hS0, hS1, hS2, hS3, hS4, hS5⟩ := hSw
      go_simp
      try with_reducible rfl
    try simp only [Act.put, List.getElem_toArray, List.getElem_cons_succ, List.getElem_cons_zero, List.setIfInBounds_toArray, List.set_cons_zero, List.set_cons_succ]
    refine wpAnyH_take (i := 23) (v := ?_) rfl (by kernel_rfl) (by kernel_rfl) (by kernel_rfl) (fun _ _ _ h => h) (Or.inl ⟨by rfl, ?_⟩) (by assumption) ?_
    rotate_left
    · intro wy hSw
      obtain ⟨hS0, hS1, hS2, hS3, hS4, hS5⟩ := hSw
      go_simp
      try with_reducible rfl
    try simp only [Act.put, List.getElem_toArray, List.getElem_cons_succ, List.getElem_cons_zero, List.setIfInBounds_toArray, List.set_cons_zero, List.set_cons_succ]
    refine wpAnyH_take (i := 24) (v := ?_) rfl (by kernel_rfl) (by kernel_rfl) (by kernel_rfl) (fun _ _ _ h => h) (Or.inl ⟨by rfl, ?_⟩) (by assumption) ?_
    rotate_left
    · intro wy hSw
      obtain ⟨hS0, hS1, hS2, hS3, hS4, hS5⟩ := hSw
      go_simp
      try with_reducible rfl
    try simp only [Act.put, List.getElem_toArray, List.getElem_cons_succ, List.getElem_cons_zero, List.setIfInBounds_toArray, List.set_cons_zero, List.set_cons_succ]
    refine wpAnyH_ready (rs := [25]) (by kernel_rfl) (by simp) ?_
    refine AllReadyH.cons rfl (fun K hK => ?_) AllReadyH.nil
    go_simp
    refine (unhide QK _).mono ?_
    rintro e W9 ⟨rfl, hb⟩
    replace HW := hide (Below.step (unhide HW) hb)
    replace HX := hide ((unhide HX).step hb)
    replace HY := hide ((unhide HY).step hb)
    clear hb
    refine hK.out _ _ ⟨(unhide HX).cell (i := 0) rfl, (unhide HX).cell (i := 1) rfl, (unhide HX).cell (i := 2) rfl, (unhide HY).cell (i := 0) rfl, (unhide HY).cell (i := 1) rfl, (unhide HY).cell (i := 2) rfl⟩ (fun hHeld => ?_)
    clear hK K
    try simp only [Act.put, List.setIfInBounds_toArray, List.set_cons_zero, List.set_cons_succ]
    refine wpAnyH_take (i := 26) (v := ?_) rfl (by kernel_rfl) (by kernel_rfl) (by kernel_rfl) (fun _ _ _ h => h) (Or.inl ⟨by rfl, ?_⟩) (by assumption) ?_
    rotate_left
    · intro wy hSw
      obtain ⟨hS0, hS1, hS2, hS3, hS4, hS5⟩ := hSw
      go_simp
      try with_reducible rfl
    try simp only [Act.put, List.getElem_toArray, List.getElem_cons_succ, List.getElem_cons_zero, List.setIfInBounds_toArray, List.set_cons_zero, List.set_cons_succ]
    refine wpAnyH_take (i := 27) (v := ?_) rfl (by kernel_rfl) (by kernel_rfl) (by kernel_rfl) (fun _ _ _ h => h) (Or.inl ⟨by rfl, ?_⟩) (by assumption) ?_
    rotate_left
    · intro wy hSw
      obtain ⟨hS0, hS1, hS2, hS3, hS4, hS5⟩ := hSw
      go_simp
      try with_reducible rfl
    try simp only [Act.put, List.getElem_toArray, List.getElem_cons_succ, List.getElem_cons_zero, List.setIfInBounds_toArray, List.set_cons_zero, List.set_cons_succ]
    refine wpAnyH_done (by kernel_rfl) ?_ _
    go_wp2
    go_ret
    exact ⟨rfl, unhide HW⟩

end Go.Proofs.Ytkfdcpnbpmipkaa
