/- Cranes: contracts of l17Copy, moveFault, moveCrane and of both DoMove. -/
import Derived.Test.YtogoknldhimgfaaCrA
import Derived.Test.YtogoknldhimgfaaMuCr
import Derived.Test.YtogoknldhimgfaaCpCrane
import Derived.Test.YtogoknldhimgfaaRecH
import Derived.Test.YtogoknldhimgfaaRMove
namespace Go.Proofs.Ytogoknldhimgfaa
open Go.RowKit

theorem onRowG {α : Type} [Inhabited α] {T : TypeId} {n : Nat} {enc : α → Nat → Value} {B B' : Nat} {w W w' : World} {ao : Option Addr} {m cap : Nat} {L : List α} (hn : 0 < n) (hW : Below B w W) (h : RowB T n enc B' W ao m cap L) (hB' : B ≤ B') (hB : B ≤ W.heap.size) (hK : Kept (fun k => ao = some ⟨k, 0, none⟩) W w') : Below B w w' := by
  refine Below.trans hW (hK.below hB (fun q hq => ?_))
  rcases h.parts hn with ⟨e, _⟩ | ⟨g, e, hg, _⟩
  · rw [hq] at e; cases e
  · rw [hq] at e; simp only [Option.some.injEq, Addr.mk.injEq, and_true] at e; omega
theorem cr_store {w : World} {g i : Nat} {L : List CraneT} (h : OwnV w g (recCells 3 eCrane L)) (hi : i < L.length) (t : Int) : OwnV (w.setCell ⟨g, i * 3, none⟩ (.int .i64 t)) g (recCells 3 eCrane (mvS L i t)) := by
  have e := recG_set (n := 3) (enc := eCrane) L (i := i) (j := 0) (by omega) hi (t, (cr L i).2) (fun j' h1 h2 => by
    have : j' = 1 ∨ j' = 2 := by omega
    rcases this with rfl | rfl <;> rfl)
  unfold mvS
  rw [← e]
  exact h.set (i * 3) _ (by rw [recCells_length]; omega)
theorem cr_row {T : TypeId} {B : Nat} {w : World} {g i m cap : Nat} {L : List CraneT} (h : RowB T 3 eCrane B w (some ⟨g, 0, none⟩) m cap L) (hi : i < L.length) (t : Int) : RowB T 3 eCrane B (w.setCell ⟨g, i * 3, none⟩ (.int .i64 t)) (some ⟨g, 0, none⟩) m cap (mvS L i t) := by
  have := h.set (i := i) (j := 0) (by omega) hi (t, (cr L i).2) (.int .i64 t) rfl (fun j' h1 h2 => by
    have : j' = 1 ∨ j' = 2 := by omega
    rcases this with rfl | rfl <;> rfl)
  exact this
theorem crAt {w : World} {g i : Nat} {L : List CraneT} (h : OwnV w g (recCells 3 eCrane L)) (hi : i < L.length) : w.cell? ⟨g, i * 3, none⟩ = some (.int .i64 (cr L i).1) ∧ w.cell? ⟨g, i * 3 + 1, none⟩ = some (.int .i64 (cr L i).2.1) ∧ w.cell? ⟨g, i * 3 + 2, none⟩ = some (.int .i64 (cr L i).2.2) := by
  have c := fun j (hj : j < 3) => h.cell (recCells_get (enc := eCrane) hi hj)
  exact ⟨c 0 (by omega), c 1 (by omega), c 2 (by omega)⟩
theorem mvS_back {L : List CraneT} {i : Nat} (hi : i < L.length) (t : Int) : mvS (mvS L i t) i (cr L i).1 = L := by
  have e : mvS (mvS L i t) i (cr L i).1 = mvS L i (cr L i).1 := by
    unfold mvS
    rw [List.set_set, cr_set hi, if_pos rfl]
  rw [e]
  exact mvS_same hi rfl
theorem mvF_bad {L : List CraneT} {gap a t : Int} (h : ¬ (CrP L gap ∧ 0 ≤ a ∧ a < L.length)) : mvF L gap a t = 1 := by unfold mvF; rw [if_pos h]
theorem mvF_lim {L : List CraneT} {gap a t : Int} (h : CrP L gap ∧ 0 ≤ a ∧ a < L.length) (h2 : ¬ ((cr L a.toNat).2.1 ≤ t ∧ t ≤ (cr L a.toNat).2.2)) : mvF L gap a t = 2 := by unfold mvF; rw [if_neg (fun h' => h' h), if_pos h2]
theorem ret_i17 {x y : Int} (h : x = y) : (Ending.returned (.int .i64 x)) = .returned (.int .i64 y) := by rw [h]
theorem OwnV.recsIn' {α : Type} [Inhabited α] {n : Nat} {enc : α → Nat → Value} {w : World} {L : List α} {g m cap : Nat} (h : OwnV w g (recCells n enc L)) (hL : L.length = m) (hl : m ≤ cap) (hm : cap ≤ maxLen) : RecsIn n enc w (.slice (some ⟨g, 0, none⟩) m cap) L := by subst hL; exact OwnV.recsIn h hl hm
/-- What a move tells. -/
def MvAns (w : World) (M : List CraneT) (C : Int) (e : Ending) (w' : World) : Prop := ∃ a n c, e = .returned (.tuple #[.slice a n c, .int .i64 C]) ∧ OwnR 3 eCrane w.heap.size w' (.slice a n c) M ∧ Below w.heap.size w w'
theorem mvAns_mk {w w' : World} {M M' : List CraneT} {C C' : Int} {e : Ending} (hM : M' = M) (hC : C' = C) (h : MvAns w M' C' e w') : MvAns w M C e w' := by subst hM; subst hC; exact h

set_option maxRecDepth 10000 in
set_option maxHeartbeats 2000000 in
theorem l17Copy_any (v : Value) (L : List CraneT) (w : World) (h : RCrane w v L) (hn : L.length ≤ 1048576) :
    Calls Try.prog 79 #[v] w fun e w' => ∃ a c, e = .returned (.slice a L.length c) ∧ RowB 45 3 eCrane w.heap.size w' a L.length c L ∧ Below w.heap.size w w' := by
  have HV := hide h
  obtain ⟨ao, cap, rfl, hl, hm, hc⟩ := h
  unfold maxLen at hm
  clear hc
  have HN := hide (rowB_new 45 3 eCrane w w.heap.size (Nat.le_refl _))
  have HW0 := hide (Below.alloc1 w (.cells #[] 45))
  have hws0 := (unhide HW0).size
  have HRL0 := hide ((unhide HV).below (unhide HW0))
  go_enter Try.func79, Try.ntmps79
  go_wp2_with (at_builtin; go_must (refine wpList_appAll tyCrane _ rfl _ _ rfl w.heap.size (some ⟨w.heap.size, 0, none⟩) 0 0 [] rfl (unhide HN) hws0 (by omega) ao L.length cap L rfl (unhide HRL0) hn ?_); intro sa sc wa hL hK; have HSM : Hid (RowB 45 3 eCrane w.heap.size wa sa (0 + L.length) sc L) := hL; have HW := hide (onRowG (by decide) (unhide HW0) (unhide HN) (Nat.le_refl _) hws0 hK); clear hL hK)
  rw [Nat.zero_add] at HSM
  refine bodyPost_ret (v := .slice sa L.length sc) (by simp [results, Try.results79, go_sem]) rfl ⟨_, _, rfl, unhide HSM, unhide HW⟩

set_option maxRecDepth 100000 in
set_option maxHeartbeats 4000000 in
theorem moveFault_any (ao : Option Addr) (cap : Nat) (L : List CraneT) (gap a t : Int) (w : World) (h : RCrane w (.slice ao L.length cap) L) :
    Calls Try.prog 70 #[.slice ao L.length cap, .int .i64 gap, vMove a t] w fun e w' => e = .returned (.int .i64 (mvF L gap a t)) ∧ Below w.heap.size w w' := by
  have A := Below.alloc1 w (.cells #[.int .i64 a, .int .i64 t] 42)
  have HW := hide A
  have HO := hide (ownV_alloc w #[.int .i64 a, .int .i64 t] 42)
  have HV := hide (h.below A)
  have Q1 := hide fun V hV => implCranesOk_any (.slice ao L.length cap) L gap V hV
  have HP := hide (crB_iff (L := L) (gap := gap))
  clear A h
  generalize crB L gap = b1 at Q1 HP
  unfold vMove
  go_enter Try.func70, Try.ntmps70
  go_wp2_with fail
  refine (unhide Q1 _ (unhide HV)).mono ?_
  rintro e w1 ⟨rfl, hb⟩
  replace HW := hide (Below.step (unhide HW) hb)
  replace HO := hide ((unhide HO).step hb)
  replace HV := hide ((unhide HV).below hb)
  clear hb Q1
  cases b1 with
  | false =>
    have HF : Hid (mvF L gap a t = 1) := mvF_bad fun h => by have := (unhide HP).2 h.1; cases this
    clear HP HV
    go_wp2
    go_ret
    exact ⟨ret_i17 (unhide HF).symm, unhide HW⟩
  | true =>
  have hcp := (unhide HP).1 (by first | rfl | trivial)
  clear HP
  have hl8 := hcp.1
  have HCP := hide hcp
  have c0 := (unhide HO).cell (i := 0) rfl
  have c1 := (unhide HO).cell (i := 1) rfl
  have q0 : IntKind.i64.wrap ((L.length : Int) - 1) = (L.length : Int) - 1 := by rw [IntKind.wrap_i64]; omega
  have Q2 := hide fun V => within_any a 0 ((L.length : Int) - 1) V
  have HB : Hid (inB a 0 ((L.length : Int) - 1) = true ↔ 0 ≤ a ∧ a < L.length) := by show _ ↔ _; simp only [inB, Bool.and_eq_true, decide_eq_true_eq]; omega
  generalize inB a 0 ((L.length : Int) - 1) = b2 at Q2 HB
  clear hcp
  go_wp2_with fail
  refine (unhide Q2 _).mono ?_
  rintro e w9 ⟨rfl, h9⟩
  have h8 := h9.symm
  subst h8
  clear h9 Q2
  cases b2 with
  | false =>
    have HF : Hid (mvF L gap a t = 1) := mvF_bad fun h => by have := (unhide HB).2 h.2; cases this
    clear HB HV
    go_wp2
    go_ret
    exact ⟨ret_i17 (unhide HF).symm, unhide HW⟩
  | true =>
  obtain ⟨ha0, ha1⟩ := (unhide HB).1 (by first | rfl | trivial)
  clear HB
  obtain ⟨i, rfl⟩ : ∃ i : Nat, a = i := ⟨a.toNat, by omega⟩
  have hi : i < L.length := by omega
  obtain ⟨ao', cap', e', hl', hm', hc'⟩ := unhide HV
  simp only [Value.slice.injEq, true_and] at e'
  obtain ⟨rfl, rfl⟩ := e'
  unfold maxLen at hm'
  obtain ⟨b, o, x0, x1, x2, rfl, -, g1, g2, EX⟩ := recCraneAt hc' hi
  have HF1 : Hid (¬ (x1 ≤ t ∧ t ≤ x2) → mvF L gap (i : Int) t = 2) := fun h => mvF_lim ⟨unhide HCP, ha0, ha1⟩ (by rw [Int.toNat_natCast, show cr L i = (x0, x1, x2) from unhide EX]; exact h)
  have HF2 : Hid ((x1 ≤ t ∧ t ≤ x2) → mvF L gap (i : Int) t = 0) := fun h => mvF_zero.2 ⟨⟨unhide HCP, ha0, ha1⟩, by rw [Int.toNat_natCast, show cr L i = (x0, x1, x2) from unhide EX]; exact h⟩
  have Q3 := hide fun V => within_any t x1 x2 V
  have HB : Hid (inB t x1 x2 = true ↔ x1 ≤ t ∧ t ≤ x2) := by show _ ↔ _; simp only [inB, Bool.and_eq_true, decide_eq_true_eq]
  generalize inB t x1 x2 = b3 at Q3 HB
  clear hc' EX HV ha0
  go_upto_region 3 with (fail)
  refine wp_region_quiet_lit (by kernel_rfl) (by kernel_rfl) ?_
  repeat (go_big_quiet_step (fail))
  go_big_quiet_want
  go_big_quiet_op
  go_big_quiet_call (exact Calls.quiet_of_same (unhide Q3 _))
  repeat (go_big_quiet_step (fail))
  refine wpQuiet_nil ?_
  intro _ hw'
  obtain ⟨nq, hw''⟩ := hw'
  subst hw''
  replace HW := hide (below_drewN (unhide HW) nq)
  cases b3 with
  | false =>
    have HF := hide (unhide HF1 fun h => by have := (unhide HB).2 h; cases this)
    clear HF1 HF2 HB
    go_wp2
    go_ret
    exact ⟨ret_i17 (unhide HF).symm, unhide HW⟩
  | true =>
    have HF := hide (unhide HF2 ((unhide HB).1 (by first | rfl | trivial)))
    clear HF1 HF2 HB
    go_wp2
    go_ret
    exact ⟨ret_i17 (unhide HF).symm, unhide HW⟩

set_option maxRecDepth 100000 in
set_option maxHeartbeats 4000000 in
theorem moveCrane_any (g : Nat) (cap : Nat) (L : List CraneT) (gap a t : Int) (w : World) (h : OwnV w g (recCells 3 eCrane L)) (hc : L.length ≤ cap) (hcm : cap ≤ 1048576) :
    Calls Try.prog 68 #[.slice (some ⟨g, 0, none⟩) L.length cap, .int .i64 gap, vMove a t] w fun e w' => e = .returned (.int .i64 (mvC L gap a t)) ∧ OwnV w' g (recCells 3 eCrane (mvL L gap a t)) ∧ Kept (fun b => b = g) w w' := by
  have A := Below.alloc1 w (.cells #[.int .i64 a, .int .i64 t] 42)
  have HK := hide (kept_of_below (T := fun b => b = g) A)
  have HO := hide (ownV_alloc w #[.int .i64 a, .int .i64 t] 42)
  have hgw := h.lt
  have HG := hide (h.step A)
  have hng : ¬ w.heap.size = g := by omega
  have Q1 := hide fun V (hV : OwnV V g (recCells 3 eCrane L)) => moveFault_any (some ⟨g, 0, none⟩) cap L gap a t V (OwnV.recsIn hV hc (by unfold maxLen; omega))
  clear A h
  by_cases hz : mvF L gap a t = 0
  case neg =>
    have HC : Hid (mvC L gap a t = mvF L gap a t) := by show _ = _; unfold mvC; rw [if_neg hz]
    have HL : Hid (mvL L gap a t = L) := by show _ = _; unfold mvL; rw [unhide HC, if_neg hz]
    have hz' : (mvF L gap a t == 0) = false := by simpa using hz
    have hz2 : (mvF L gap a t != 0) = true := by simpa using hz
    generalize mvF L gap a t = F at *
    unfold vMove at Q1 ⊢
    have c0 := (unhide HO).cell (i := 0) rfl
    have c1 := (unhide HO).cell (i := 1) rfl
    go_enter Try.func68, Try.ntmps68
    go_wp2_with fail
    refine (unhide Q1 _ (unhide HG)).mono ?_
    rintro e w1 ⟨rfl, hb⟩
    replace HG := hide ((unhide HG).step hb)
    replace HK := hide ((unhide HK).trans (kept_of_below hb))
    clear hb Q1 HO c0 c1
    go_wp2
    go_ret
    exact ⟨ret_i17 (unhide HC).symm, by rw [unhide HL]; exact unhide HG, unhide HK⟩
  case pos =>
  obtain ⟨⟨hcp, ha0, ha1⟩, ht⟩ := mvF_zero.1 hz
  obtain ⟨i, rfl⟩ : ∃ i : Nat, a = i := ⟨a.toNat, by omega⟩
  have hi : i < L.length := by omega
  have hl8 := hcp.1
  clear hcp ht
  have HC0 : Hid (CrP (mvS L i t) gap → mvC L gap (i : Int) t = 0) := fun h => by unfold mvC; rw [if_pos hz, Int.toNat_natCast, if_pos h]
  have HC3 : Hid (¬ CrP (mvS L i t) gap → mvC L gap (i : Int) t = 3) := fun h => by unfold mvC; rw [if_pos hz, Int.toNat_natCast, if_neg h]
  have HL0 : Hid (mvC L gap (i : Int) t = 0 → mvL L gap (i : Int) t = mvS L i t) := fun h => by unfold mvL; rw [if_pos h, Int.toNat_natCast]
  have HL3 : Hid (mvC L gap (i : Int) t = 3 → mvL L gap (i : Int) t = L) := fun h => by unfold mvL; rw [h, if_neg (by omega)]
  rw [hz] at Q1
  have Q2 := hide fun V hV => implCranesOk_any (.slice (some ⟨g, 0, none⟩) L.length cap) (mvS L i t) gap V hV
  have HP := hide (crB_iff (L := mvS L i t) (gap := gap))
  generalize crB (mvS L i t) gap = b2 at Q2 HP
  clear hz
  unfold vMove at Q1 ⊢
  have c0 := (unhide HO).cell (i := 0) rfl
  have c1 := (unhide HO).cell (i := 1) rfl
  go_enter Try.func68, Try.ntmps68
  go_wp2_with fail
  refine (unhide Q1 _ (unhide HG)).mono ?_
  rintro e w1 ⟨rfl, hb⟩
  replace HG := hide ((unhide HG).step hb)
  replace HO := hide ((unhide HO).step hb)
  replace HK := hide ((unhide HK).trans (kept_of_below hb))
  clear hb Q1 c0 c1
  have c0 := (unhide HO).cell (i := 0) rfl
  have c1 := (unhide HO).cell (i := 1) rfl
  obtain ⟨k0, -, -⟩ := crAt (unhide HG) hi
  have kf := (unhide HG).frozen
  have HG2 := hide (cr_store (unhide HG) hi t)
  have HK2 := hide ((unhide HK).setCell (T := fun b => b = g) (p := ⟨g, i * 3, none⟩) rfl (.int .i64 t))
  have HO2 := hide ((unhide HO).other (a := ⟨g, i * 3, none⟩) hng (.int .i64 t))
  have HBK := hide (mvS_back hi t)
  obtain ⟨x0, ex0⟩ : ∃ x, x = (cr L i).1 := ⟨_, rfl⟩
  rw [← ex0] at k0 HBK
  clear ex0 HG HK HO
  go_wp2_with fail
  refine (unhide Q2 _ (OwnV.recsIn' (unhide HG2) (mvS_len _ _ _) hc (by unfold maxLen; omega))).mono ?_
  rintro e w2 ⟨rfl, hb⟩
  replace HG2 := hide ((unhide HG2).step hb)
  replace HK2 := hide ((unhide HK2).trans (kept_of_below hb))
  replace HO2 := hide ((unhide HO2).step hb)
  clear hb Q2 k0 kf c0 c1
  have hi2 : i < (mvS L i t).length := by rw [mvS_len]; exact hi
  cases b2 with
  | true =>
    have HC := hide (unhide HC0 ((unhide HP).1 (by first | rfl | trivial)))
    have HL := hide (unhide HL0 (unhide HC))
    clear HC0 HC3 HL0 HL3 HP HBK
    go_wp2
    go_ret
    exact ⟨ret_i17 (unhide HC).symm, by rw [unhide HL]; exact unhide HG2, unhide HK2⟩
  | false =>
    have HC := hide (unhide HC3 fun h => by have := (unhide HP).2 h; cases this)
    have HL := hide (unhide HL3 (unhide HC))
    have c0 := (unhide HO2).cell (i := 0) rfl
    obtain ⟨k0, -, -⟩ := crAt (unhide HG2) hi2
    have kf := (unhide HG2).frozen
    have HG3 := hide (cr_store (unhide HG2) hi2 x0)
    have HK3 := hide ((unhide HK2).setCell (T := fun b => b = g) (p := ⟨g, i * 3, none⟩) rfl (.int .i64 x0))
    rw [unhide HBK] at HG3
    clear HC0 HC3 HL0 HL3 HP HBK HG2 HK2 HO2
    go_wp2
    go_ret
    exact ⟨ret_i17 (unhide HC).symm, by rw [unhide HL]; exact unhide HG3, unhide HK3⟩

end Go.Proofs.Ytogoknldhimgfaa
