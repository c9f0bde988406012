/- Customs: the contract of the program's settle. Written by wip/mkcso.py. -/
import Derived.Test.YtojlkdmlelgcbaaCsN
namespace Go.Proofs.Ytojlkdmlelgcbaa
open Go.RowKit

/-- What settle leaves. -/
def SetA (w : World) (go gl cap gp : Nat) (ok : Bool) (L : List LotT) (P : List TraderT) (tk : Int) (k : Nat) (x : LotT) (j : Nat) (r : Option (Int × TraderT × Int)) (e : Ending) (w' : World) : Prop :=
  Kept (OfT go gl gp) w w' ∧ match r with
  | none => e = .returned (.bool false) ∧ Of w' go gl cap gp ok L P tk
  | some (b, t, tk') => e = .returned (.bool true) ∧ Of w' go gl cap gp ok (L.set k (putL x b x.2.2.2.2.2.1)) (P.set j t) tk'
theorem setA_no {w : World} {go gl cap gp : Nat} {ok : Bool} {L : List LotT} {P : List TraderT} {tk : Int} {k : Nat} {x : LotT} {j : Nat} {r : Option (Int × TraderT × Int)} {e : Ending} {w' : World} (hr : r = none) (hk : Kept (OfT go gl gp) w w') (he : e = .returned (.bool false)) (ho : Of w' go gl cap gp ok L P tk) : SetA w go gl cap gp ok L P tk k x j r e w' := by
  subst hr; exact ⟨hk, he, ho⟩
theorem setA_yes {w : World} {go gl cap gp : Nat} {ok : Bool} {L : List LotT} {P : List TraderT} {tk : Int} {k : Nat} {x : LotT} {j : Nat} {r : Option (Int × TraderT × Int)} {e : Ending} {w' : World} {b : Int} {t : TraderT} {tk' : Int} (hr : r = some (b, t, tk')) (hk : Kept (OfT go gl gp) w w') (he : e = .returned (.bool true)) (ho : Of w' go gl cap gp ok (L.set k (putL x b x.2.2.2.2.2.1)) (P.set j t) tk') : SetA w go gl cap gp ok L P tk k x j r e w' := by
  subst hr; exact ⟨hk, he, ho⟩
theorem set_same {α : Type} {L : List α} {d x : α} {k : Nat} (hk : k < L.length) (h : L.getD k d = x) : L.set k x = L := by
  apply List.ext_getElem?
  intro i
  by_cases e : i = k
  · subst e
    rw [List.getElem?_set_self hk, ← h, getD_lt hk, List.getElem?_eq_getElem hk]
  · rw [List.getElem?_set_ne (fun h => e h.symm)]
theorem keptP {go gl gp : Nat} {w w' : World} (h : Kept (fun b => b = gp) w w') : Kept (OfT go gl gp) w w' := h.mono fun _ _ e => Or.inr (Or.inr e)
theorem keptG {go gl gp : Nat} {w w' : World} (h : Kept (OfT go gl gp) w w') (i : Nat) (u : Value) : Kept (OfT go gl gp) w (w'.setCell ⟨go, i, none⟩ u) := Kept.setCell (T := OfT go gl gp) h (p := ⟨go, i, none⟩) (Or.inl rfl) u
theorem keptL {go gl gp : Nat} {w w' : World} (h : Kept (OfT go gl gp) w w') (i : Nat) (u : Value) : Kept (OfT go gl gp) w (w'.setCell ⟨gl, i, none⟩ u) := Kept.setCell (T := OfT go gl gp) h (p := ⟨gl, i, none⟩) (Or.inr (Or.inl rfl)) u

set_option maxRecDepth 100000 in
set_option maxHeartbeats 6400000 in
theorem settle_any (go gl cap gp : Nat) (ok : Bool) (L : List LotT) (P : List TraderT) (tk : Int) (k j : Nat) (id ma va ra st bo mo bn bd kd : Int) (w : World) (h : Of w go gl cap gp ok L P tk) (hk : k < L.length) (hx : L.getD k default = (id, (j : Int), ma, va, ra, st, bo)) (hj : j < P.length) (hp : P.getD j default = (mo, bn, bd))
    (hd : dutB ma va ra = true) (ht : TOk (mo, bn, bd)) (htk : 0 ≤ tk ∧ tk ≤ 1000000000000000) (hbo : 0 ≤ bo ∧ bo ≤ 5000000000000) :
    Calls Try.prog 78 #[.pointer (some ⟨go, 0, none⟩), .pointer (some ⟨gl, k * 7, none⟩), .int .i64 kd] w fun e w' => SetA w go gl cap gp ok L P tk k (id, (j : Int), ma, va, ra, st, bo) j (setV (id, (j : Int), ma, va, ra, st, bo) (mo, bn, bd) tk kd) e w' := by
  obtain ⟨c0, c1, c2, c3, c4, c5, c6⟩ := h.lot hk hx
  have o2 := h.box.cell (i := 2) rfl
  have o3 := h.box.cell (i := 3) rfl
  have HDU := hide fun V => implDuty6_any ma va ra V
  rw [hd] at HDU
  have hdb := dut_bd ma va ra
  obtain ⟨t1, t2, t3⟩ := ht
  dsimp only at t1 t2 t3
  have ES : Hid (∀ b s, putL (id, (j : Int), ma, va, ra, st, bo) b s = (id, (j : Int), ma, va, ra, s, b)) := fun _ _ => rfl
  have EV : Hid (setV (id, (j : Int), ma, va, ra, st, bo) (mo, bn, bd) tk kd = if kd = 4 then (if mo < dutV ma va ra ∨ 1000000000000000 < tk + dutV ma va ra then none else some (bo, (mo - dutV ma va ra, bn, bd), tk + dutV ma va ra)) else if kd = 5 then (if bn - bd < dutV ma va ra then none else some (dutV ma va ra, (mo, bn, bd + dutV ma va ra), tk)) else if kd = 6 then some (0, (mo, bn, bd - bo), tk) else some (bo, (mo, bn, bd), tk)) := rfl
  obtain ⟨du, edu⟩ : ∃ z, z = dutV ma va ra := ⟨_, rfl⟩
  rw [← edu] at HDU hdb EV
  clear edu
  obtain ⟨RR, eRR⟩ : ∃ z, z = setV (id, (j : Int), ma, va, ra, st, bo) (mo, bn, bd) tk kd := ⟨_, rfl⟩
  rw [← eRR] at EV ⊢
  clear eRR
  have HO := hide h
  have HX := hide hx
  have HP := hide hp
  have hji : (j : Int) < P.length := by omega
  have HL0 : Hid (L.set k (putL (id, (j : Int), ma, va, ra, st, bo) bo st) = L) := set_same hk (by rw [hx]; rfl)
  have HP0 : Hid (P.set j (mo, bn, bd) = P) := set_same hj hp
  have hne := h.ap
  clear h hx hp hd
  by_cases e4 : kd = 4
  · subst e4
    have EV4 : Hid (RR = if mo < du ∨ 1000000000000000 < tk + du then none else some (bo, (mo - du, bn, bd), tk + du)) := by have := unhide EV; exact this
    clear EV
    have e1 : IntKind.i64.wrap (tk + du) = tk + du := by rw [IntKind.wrap_i64]; omega
    have HPAY := hide fun V (hV : OwnV V gp (recCells 5 ePur P)) => pay_any gp j P mo bn bd du V hV hj (unhide HP) (by rw [IntKind.wrap_i64]; omega)
    cases hw : inB (tk + du) 0 1000000000000000 with
    | false =>
      have HR : Hid (RR = none) := by show _ = _; rw [unhide EV4, if_pos (Or.inr (by simp only [inB, Bool.and_eq_false_iff, decide_eq_false_iff_not] at hw; omega))]
      go_enter Try.func78, Try.ntmps78
      go_upto_region 1 with (fail)
      go_cut [7, 8] (fun s7 s8 wx => s7 = .int .i64 du ∧ s8 = .bool true ∧ ∃ n, wx = w.drewN n)
      case first =>
        refine wp_region_quiet_lit (by kernel_rfl) (by kernel_rfl) ?_
        repeat (go_big_quiet_step (fail))
        go_big_quiet_want
        go_big_quiet_op
        go_big_quiet_call (exact Calls.quiet_of_same (unhide HDU _))
        repeat (go_big_quiet_step (fail))
        refine wpQuiet_nil ?_
        intro _ hw'
        obtain ⟨n1, hw''⟩ := hw'
        subst hw''
        go_wp2_with fail
        go_meet
        exact ⟨rfl, rfl, n1, rfl⟩
      case' rest =>
        obtain ⟨rfl, rfl, n1, rfl⟩ := hcut
        go_upto_region 2 with (fail)
        go_cut [9] (fun s9 wx => s9 = .pointer (some ⟨gp, j * 5, none⟩) ∧ ∃ n, wx = w.drewN n)
        case first =>
          go_quiet (fail)
          go_wp2_with fail
          go_meet
          first | exact ⟨rfl, _, World.drewN_drewN _ _ _⟩ | exact ⟨rfl, _, rfl⟩
        case' rest =>
          obtain ⟨rfl, nq, rfl⟩ := hcut
      go_wp2_with (go_at_call 46; refine (isWealth_any _ _).mono ?_; rintro e w9 ⟨rfl, h9⟩; have h8 := h9.symm; subst h8; clear h9)
      go_ret
      exact setA_no (unhide HR) (keptDN (Kept.refl _ w) _) rfl ((unhide HO).step (below_drewN (Below.refl _ _) _))
    | true =>
      have hw' := inB_true hw
      by_cases hm : mo < du
      · have HR : Hid (RR = none) := by show _ = _; rw [unhide EV4, if_pos (Or.inl hm)]
        have dm : (!decide (mo < du)) = false := by simpa using hm
        rw [dm, if_pos hm] at HPAY
        go_enter Try.func78, Try.ntmps78
        go_upto_region 1 with (fail)
        go_cut [7, 8] (fun s7 s8 wx => s7 = .int .i64 du ∧ s8 = .bool true ∧ ∃ n, wx = w.drewN n)
        case first =>
          refine wp_region_quiet_lit (by kernel_rfl) (by kernel_rfl) ?_
          repeat (go_big_quiet_step (fail))
          go_big_quiet_want
          go_big_quiet_op
          go_big_quiet_call (exact Calls.quiet_of_same (unhide HDU _))
          repeat (go_big_quiet_step (fail))
          refine wpQuiet_nil ?_
          intro _ hw'
          obtain ⟨n1, hw''⟩ := hw'
          subst hw''
          go_wp2_with fail
          go_meet
          exact ⟨rfl, rfl, n1, rfl⟩
        case' rest =>
          obtain ⟨rfl, rfl, n1, rfl⟩ := hcut
          go_upto_region 2 with (fail)
          go_cut [9] (fun s9 wx => s9 = .pointer (some ⟨gp, j * 5, none⟩) ∧ ∃ n, wx = w.drewN n)
          case first =>
            go_quiet (fail)
            go_wp2_with fail
            go_meet
            first | exact ⟨rfl, _, World.drewN_drewN _ _ _⟩ | exact ⟨rfl, _, rfl⟩
          case' rest =>
            obtain ⟨rfl, nq, rfl⟩ := hcut
        go_wp2_with (go_at_call 46; refine (isWealth_any _ _).mono ?_; rintro e w9 ⟨rfl, h9⟩; have h8 := h9.symm; subst h8; clear h9)
        refine (unhide HPAY _ ((unhide HO).step (below_drewN (Below.refl _ _) nq)).pur).mono ?_
        rintro e w1 ⟨rfl, hO1, hk1⟩
        have HK1 := hide (keptP (go := go) (gl := gl) ((keptDN (Kept.refl (fun b => b = gp) w) nq).trans hk1))
        have HO1 := hide (((unhide HO).step (below_drewN (Below.refl _ _) nq)).putP hk1 hO1 rfl)
        clear hO1 hk1
        go_wp2
        go_ret
        exact setA_no (unhide HR) (unhide HK1) rfl (unhide HO1)
      · have HR : Hid (RR = some (bo, (mo - du, bn, bd), tk + du)) := by show _ = _; rw [unhide EV4, if_neg (by omega)]
        have dm : (!decide (mo < du)) = true := by simpa using hm
        rw [dm, if_neg hm] at HPAY
        go_enter Try.func78, Try.ntmps78
        go_upto_region 1 with (fail)
        go_cut [7, 8] (fun s7 s8 wx => s7 = .int .i64 du ∧ s8 = .bool true ∧ ∃ n, wx = w.drewN n)
        case first =>
          refine wp_region_quiet_lit (by kernel_rfl) (by kernel_rfl) ?_
          repeat (go_big_quiet_step (fail))
          go_big_quiet_want
          go_big_quiet_op
          go_big_quiet_call (exact Calls.quiet_of_same (unhide HDU _))
          repeat (go_big_quiet_step (fail))
          refine wpQuiet_nil ?_
          intro _ hw'
          obtain ⟨n1, hw''⟩ := hw'
          subst hw''
          go_wp2_with fail
          go_meet
          exact ⟨rfl, rfl, n1, rfl⟩
        case' rest =>
          obtain ⟨rfl, rfl, n1, rfl⟩ := hcut
          go_upto_region 2 with (fail)
          go_cut [9] (fun s9 wx => s9 = .pointer (some ⟨gp, j * 5, none⟩) ∧ ∃ n, wx = w.drewN n)
          case first =>
            go_quiet (fail)
            go_wp2_with fail
            go_meet
            first | exact ⟨rfl, _, World.drewN_drewN _ _ _⟩ | exact ⟨rfl, _, rfl⟩
          case' rest =>
            obtain ⟨rfl, nq, rfl⟩ := hcut
        go_wp2_with (go_at_call 46; refine (isWealth_any _ _).mono ?_; rintro e w9 ⟨rfl, h9⟩; have h8 := h9.symm; subst h8; clear h9)
        refine (unhide HPAY _ ((unhide HO).step (below_drewN (Below.refl _ _) nq)).pur).mono ?_
        rintro e w1 ⟨rfl, hO1, hk1⟩
        have HK1 := hide (keptP (go := go) (gl := gl) ((keptDN (Kept.refl (fun b => b = gp) w) nq).trans hk1))
        have HO1 := hide (((unhide HO).step (below_drewN (Below.refl _ _) nq)).putP hk1 hO1 (by simp))
        clear hO1 hk1
        have p3 := (unhide HO1).box.cell (i := 3) rfl
        have pf := (unhide HO1).box.frozen
        have HO2 := hide ((unhide HO1).putTk (tk + du))
        have HK2 := hide (keptG (unhide HK1) 3 (.int .i64 (tk + du)))
        go_wp2
        go_ret
        exact setA_yes (unhide HR) (unhide HK2) rfl (by rw [unhide HL0]; exact unhide HO2)
  by_cases e5 : kd = 5
  · subst e5
    have EV5 : Hid (RR = if bn - bd < du then none else some (du, (mo, bn, bd + du), tk)) := by have := unhide EV; exact this
    clear EV
    have HPAY := hide fun V (hV : OwnV V gp (recCells 5 ePur P)) => bind_any gp j P mo bn bd du V hV hj (unhide HP) (by rw [IntKind.wrap_i64]; omega) (by rw [IntKind.wrap_i64]; omega)
    by_cases hm : bn - bd < du
    · have HR : Hid (RR = none) := by show _ = _; rw [unhide EV5, if_pos hm]
      have dm : (!decide (bn - bd < du)) = false := by simpa using hm
      rw [dm, if_pos hm] at HPAY
      go_enter Try.func78, Try.ntmps78
      go_upto_region 1 with (fail)
      go_cut [7, 8] (fun s7 s8 wx => s7 = .int .i64 du ∧ s8 = .bool true ∧ ∃ n, wx = w.drewN n)
      case first =>
        refine wp_region_quiet_lit (by kernel_rfl) (by kernel_rfl) ?_
        repeat (go_big_quiet_step (fail))
        go_big_quiet_want
        go_big_quiet_op
        go_big_quiet_call (exact Calls.quiet_of_same (unhide HDU _))
        repeat (go_big_quiet_step (fail))
        refine wpQuiet_nil ?_
        intro _ hw'
        obtain ⟨n1, hw''⟩ := hw'
        subst hw''
        go_wp2_with fail
        go_meet
        exact ⟨rfl, rfl, n1, rfl⟩
      case' rest =>
        obtain ⟨rfl, rfl, n1, rfl⟩ := hcut
        go_upto_region 2 with (fail)
        go_cut [9] (fun s9 wx => s9 = .pointer (some ⟨gp, j * 5, none⟩) ∧ ∃ n, wx = w.drewN n)
        case first =>
          go_quiet (fail)
          go_wp2_with fail
          go_meet
          first | exact ⟨rfl, _, World.drewN_drewN _ _ _⟩ | exact ⟨rfl, _, rfl⟩
        case' rest =>
          obtain ⟨rfl, nq, rfl⟩ := hcut
      go_wp2_with fail
      refine (unhide HPAY _ ((unhide HO).step (below_drewN (Below.refl _ _) nq)).pur).mono ?_
      rintro e w1 ⟨rfl, hO1, hk1⟩
      have HK1 := hide (keptP (go := go) (gl := gl) ((keptDN (Kept.refl (fun b => b = gp) w) nq).trans hk1))
      have HO1 := hide (((unhide HO).step (below_drewN (Below.refl _ _) nq)).putP hk1 hO1 rfl)
      clear hO1 hk1
      go_wp2
      go_ret
      exact setA_no (unhide HR) (unhide HK1) rfl (unhide HO1)
    · have HR : Hid (RR = some (du, (mo, bn, bd + du), tk)) := by show _ = _; rw [unhide EV5, if_neg hm]
      have dm : (!decide (bn - bd < du)) = true := by simpa using hm
      rw [dm, if_neg hm] at HPAY
      go_enter Try.func78, Try.ntmps78
      go_upto_region 1 with (fail)
      go_cut [7, 8] (fun s7 s8 wx => s7 = .int .i64 du ∧ s8 = .bool true ∧ ∃ n, wx = w.drewN n)
      case first =>
        refine wp_region_quiet_lit (by kernel_rfl) (by kernel_rfl) ?_
        repeat (go_big_quiet_step (fail))
        go_big_quiet_want
        go_big_quiet_op
        go_big_quiet_call (exact Calls.quiet_of_same (unhide HDU _))
        repeat (go_big_quiet_step (fail))
        refine wpQuiet_nil ?_
        intro _ hw'
        obtain ⟨n1, hw''⟩ := hw'
        subst hw''
        go_wp2_with fail
        go_meet
        exact ⟨rfl, rfl, n1, rfl⟩
      case' rest =>
        obtain ⟨rfl, rfl, n1, rfl⟩ := hcut
        go_upto_region 2 with (fail)
        go_cut [9] (fun s9 wx => s9 = .pointer (some ⟨gp, j * 5, none⟩) ∧ ∃ n, wx = w.drewN n)
        case first =>
          go_quiet (fail)
          go_wp2_with fail
          go_meet
          first | exact ⟨rfl, _, World.drewN_drewN _ _ _⟩ | exact ⟨rfl, _, rfl⟩
        case' rest =>
          obtain ⟨rfl, nq, rfl⟩ := hcut
      go_wp2_with fail
      refine (unhide HPAY _ ((unhide HO).step (below_drewN (Below.refl _ _) nq)).pur).mono ?_
      rintro e w1 ⟨rfl, hO1, hk1⟩
      have HK1 := hide (keptP (go := go) (gl := gl) ((keptDN (Kept.refl (fun b => b = gp) w) nq).trans hk1))
      have HO1 := hide (((unhide HO).step (below_drewN (Below.refl _ _) nq)).putP hk1 hO1 (by simp))
      clear hO1 hk1
      obtain ⟨p0, p1, p2, p3, p4, p5, p6⟩ := (unhide HO1).lot hk (unhide HX)
      have pf := (unhide HO1).own.frozen
      have HO2 := hide ((unhide HO1).putL hk (j := 6) (by omega) (putL (id, (j : Int), ma, va, ra, st, bo) du st) (fun j' h1 h2 => by rw [unhide HX]; have h3 : j' = 0 ∨ j' = 1 ∨ j' = 2 ∨ j' = 3 ∨ j' = 4 ∨ j' = 5 ∨ j' = 6 := (by omega); rcases h3 with rfl | rfl | rfl | rfl | rfl | rfl | rfl <;> first | rfl | exact absurd rfl h2) (u := .int .i64 du) rfl)
      have HK2 := hide (keptL (unhide HK1) (k * 7 + 6) (.int .i64 du))
      go_wp2
      go_ret
      exact setA_yes (unhide HR) (unhide HK2) rfl (unhide HO2)
  by_cases e6 : kd = 6
  · subst e6
    have HR : Hid (RR = some (0, (mo, bn, bd - bo), tk)) := by have := unhide EV; exact this
    clear EV
    have HPAY := hide fun V (hV : OwnV V gp (recCells 5 ePur P)) => release_any gp j P mo bn bd bo V hV hj (unhide HP) (by rw [IntKind.wrap_i64]; omega)
    go_enter Try.func78, Try.ntmps78
    go_upto_region 1 with (fail)
    go_cut [7, 8] (fun s7 s8 wx => s7 = .int .i64 du ∧ s8 = .bool true ∧ ∃ n, wx = w.drewN n)
    case first =>
      refine wp_region_quiet_lit (by kernel_rfl) (by kernel_rfl) ?_
      repeat (go_big_quiet_step (fail))
      go_big_quiet_want
      go_big_quiet_op
      go_big_quiet_call (exact Calls.quiet_of_same (unhide HDU _))
      repeat (go_big_quiet_step (fail))
      refine wpQuiet_nil ?_
      intro _ hw'
      obtain ⟨n1, hw''⟩ := hw'
      subst hw''
      go_wp2_with fail
      go_meet
      exact ⟨rfl, rfl, n1, rfl⟩
    case' rest =>
      obtain ⟨rfl, rfl, n1, rfl⟩ := hcut
      go_upto_region 2 with (fail)
      go_cut [9] (fun s9 wx => s9 = .pointer (some ⟨gp, j * 5, none⟩) ∧ ∃ n, wx = w.drewN n)
      case first =>
        go_quiet (fail)
        go_wp2_with fail
        go_meet
        first | exact ⟨rfl, _, World.drewN_drewN _ _ _⟩ | exact ⟨rfl, _, rfl⟩
      case' rest =>
        obtain ⟨rfl, nq, rfl⟩ := hcut
    go_wp2_with fail
    refine (unhide HPAY _ ((unhide HO).step (below_drewN (Below.refl _ _) nq)).pur).mono ?_
    rintro e w1 ⟨rfl, hO1, hk1⟩
    have HK1 := hide (keptP (go := go) (gl := gl) ((keptDN (Kept.refl (fun b => b = gp) w) nq).trans hk1))
    have HO1 := hide (((unhide HO).step (below_drewN (Below.refl _ _) nq)).putP hk1 hO1 (by simp))
    clear hO1 hk1
    obtain ⟨p0, p1, p2, p3, p4, p5, p6⟩ := (unhide HO1).lot hk (unhide HX)
    have pf := (unhide HO1).own.frozen
    have HO2 := hide ((unhide HO1).putL hk (j := 6) (by omega) (putL (id, (j : Int), ma, va, ra, st, bo) 0 st) (fun j' h1 h2 => by rw [unhide HX]; have h3 : j' = 0 ∨ j' = 1 ∨ j' = 2 ∨ j' = 3 ∨ j' = 4 ∨ j' = 5 ∨ j' = 6 := (by omega); rcases h3 with rfl | rfl | rfl | rfl | rfl | rfl | rfl <;> first | rfl | exact absurd rfl h2) (u := .int .i64 0) rfl)
    have HK2 := hide (keptL (unhide HK1) (k * 7 + 6) (.int .i64 0))
    go_wp2
    go_ret
    exact setA_yes (unhide HR) (unhide HK2) rfl (unhide HO2)
  have HR : Hid (RR = some (bo, (mo, bn, bd), tk)) := by show _ = _; rw [unhide EV, if_neg e4, if_neg e5, if_neg e6]
  have d4 : (kd == 4) = false := by simpa using e4
  have d5 : (kd == 5) = false := by simpa using e5
  have d6 : (kd == 6) = false := by simpa using e6
  clear EV
  go_enter Try.func78, Try.ntmps78
  go_upto_region 1 with (fail)
  go_cut [7, 8] (fun s7 s8 wx => s7 = .int .i64 du ∧ s8 = .bool true ∧ ∃ n, wx = w.drewN n)
  case first =>
    refine wp_region_quiet_lit (by kernel_rfl) (by kernel_rfl) ?_
    repeat (go_big_quiet_step (fail))
    go_big_quiet_want
    go_big_quiet_op
    go_big_quiet_call (exact Calls.quiet_of_same (unhide HDU _))
    repeat (go_big_quiet_step (fail))
    refine wpQuiet_nil ?_
    intro _ hw'
    obtain ⟨n1, hw''⟩ := hw'
    subst hw''
    go_wp2_with fail
    go_meet
    exact ⟨rfl, rfl, n1, rfl⟩
  case' rest =>
    obtain ⟨rfl, rfl, n1, rfl⟩ := hcut
    go_upto_region 2 with (fail)
    go_cut [9] (fun s9 wx => s9 = .pointer (some ⟨gp, j * 5, none⟩) ∧ ∃ n, wx = w.drewN n)
    case first =>
      go_quiet (fail)
      go_wp2_with fail
      go_meet
      first | exact ⟨rfl, _, World.drewN_drewN _ _ _⟩ | exact ⟨rfl, _, rfl⟩
    case' rest =>
      obtain ⟨rfl, nq, rfl⟩ := hcut
  go_wp2
  go_ret
  exact setA_yes (unhide HR) (keptDN (Kept.refl _ w) _) rfl (by rw [unhide HL0, unhide HP0]; exact (unhide HO).step (below_drewN (Below.refl _ _) _))

end Go.Proofs.Ytojlkdmlelgcbaa
