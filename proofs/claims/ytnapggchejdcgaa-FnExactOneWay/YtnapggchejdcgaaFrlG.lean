/- A floor of rings: contracts of ringWays and of both OneWay. Written by wip/mkfrlg.py. -/
import Derived.Test.YtnapggchejdcgaaFrlC
import Derived.Test.YtnapggchejdcgaaRwI
import Derived.Deep.RegionWith
import Derived.Deep.RegionHeld
import Derived.Deep.DeepMust
import Derived.Deep.CutBlock
import Derived.Deep.DeepCutAuto
namespace Go.Proofs.Ytnapggchejdcgaa
open Go.RowKit

def ringV (x y lx ly : Int) : Int := bif decide (y = 0) && decide (x < lx) then 1 else bif decide (x = lx) && decide (y < ly) then 2 else bif decide (y = ly) && decide (0 < x) then 4 else bif decide (x = 0) then 8 else 15
/-- The ways of the first n places. -/
def ringL (wd hg n : Nat) : List Int := (List.range n).map fun i => ringV ((i % wd : Nat) : Int) ((i / wd : Nat) : Int) ((wd : Int) - 1) ((hg : Int) - 1)
theorem ringL_len (wd hg n : Nat) : (ringL wd hg n).length = n := by simp [ringL]
theorem ringL_succ {wd hg x y : Nat} (hx : x < wd) : ringL wd hg (y * wd + x) ++ [ringV (x : Int) (y : Int) ((wd : Int) - 1) ((hg : Int) - 1)] = ringL wd hg (y * wd + (x + 1)) := by
  unfold ringL
  rw [show y * wd + (x + 1) = (y * wd + x) + 1 by omega, List.range_succ, List.map_append, List.map_singleton]
  have h1 : (y * wd + x) % wd = x := by rw [Nat.mul_comm, Nat.mul_add_mod]; exact Nat.mod_eq_of_lt hx
  have h2 : (y * wd + x) / wd = y := by rw [Nat.mul_comm, Nat.mul_add_div (by omega), Nat.div_eq_of_lt hx, Nat.add_zero]
  rw [h1, h2]
/-- What OneWay answers. -/
def oneB (wd hg : Int) : Bool := inB wd 2 10 && inB hg 2 10
def oneL (wd hg : Int) : List Int := bif oneB wd hg then ringL wd.toNat hg.toNat (wd.toNat * hg.toNat) else []
def oneZ (wd hg x : Int) : Int := bif oneB wd hg then x else 0
theorem mul_n10 {a b : Nat} (h1 : a ≤ 10) (h2 : b ≤ 10) : a * b ≤ 100 := Nat.mul_le_mul h1 h2

set_option maxHeartbeats 1600000 in
theorem ringWays_any (x y lx ly : Int) (w : World) : Calls Try.prog 56 #[.int .i64 x, .int .i64 y, .int .i64 lx, .int .i64 ly] w fun e w' => e = .returned (.int .i64 (ringV x y lx ly)) ∧ w' = w := by
  obtain ⟨r, er⟩ : ∃ r, r = ringV x y lx ly := ⟨_, rfl⟩
  rw [← er]
  unfold ringV at er
  have d1 : (y == 0) = decide (y = 0) := by rw [Bool.eq_iff_iff]; simp
  have d2 : (x == lx) = decide (x = lx) := by rw [Bool.eq_iff_iff]; simp
  have d3 : (y == ly) = decide (y = ly) := by rw [Bool.eq_iff_iff]; simp
  have d4 : (x == 0) = decide (x = 0) := by rw [Bool.eq_iff_iff]; simp
  generalize decide (y = 0) = a1 at *
  generalize decide (x = lx) = a3 at *
  generalize decide (y = ly) = a5 at *
  generalize decide (x = 0) = a7 at *
  obtain ⟨a2, d5⟩ : ∃ a, decide (x < lx) = a := ⟨_, rfl⟩
  obtain ⟨a4, d6⟩ : ∃ a, decide (y < ly) = a := ⟨_, rfl⟩
  obtain ⟨a6, d7⟩ : ∃ a, decide (0 < x) = a := ⟨_, rfl⟩
  rw [d5, d6, d7] at er
  have ER := hide er
  clear er
  cases a1 with
  | false =>
    cases a3 with
    | false =>
      cases a5 with
      | false =>
        cases a7 with
        | true =>
          have e1 : r = 8 := by rw [unhide ER]; rfl
          subst e1
          clear ER
          go_enter Try.func56, Try.ntmps56
          go_wp2
          go_ret
          exact ⟨rfl, rfl⟩
        | false =>
          have e1 : r = 15 := by rw [unhide ER]; rfl
          subst e1
          clear ER
          go_enter Try.func56, Try.ntmps56
          go_wp2
          go_ret
          exact ⟨rfl, rfl⟩
      | true =>
        cases a6 with
        | true =>
          have e1 : r = 4 := by rw [unhide ER]; rfl
          subst e1
          clear ER
          go_enter Try.func56, Try.ntmps56
          go_wp2
          go_ret
          exact ⟨rfl, rfl⟩
        | false =>
          cases a7 with
          | true =>
            have e1 : r = 8 := by rw [unhide ER]; rfl
            subst e1
            clear ER
            go_enter Try.func56, Try.ntmps56
            go_wp2
            go_ret
            exact ⟨rfl, rfl⟩
          | false =>
            have e1 : r = 15 := by rw [unhide ER]; rfl
            subst e1
            clear ER
            go_enter Try.func56, Try.ntmps56
            go_wp2
            go_ret
            exact ⟨rfl, rfl⟩
    | true =>
      cases a4 with
      | true =>
        have e1 : r = 2 := by rw [unhide ER]; rfl
        subst e1
        clear ER
        go_enter Try.func56, Try.ntmps56
        go_wp2
        go_ret
        exact ⟨rfl, rfl⟩
      | false =>
        cases a5 with
        | false =>
          cases a7 with
          | true =>
            have e1 : r = 8 := by rw [unhide ER]; rfl
            subst e1
            clear ER
            go_enter Try.func56, Try.ntmps56
            go_wp2
            go_ret
            exact ⟨rfl, rfl⟩
          | false =>
            have e1 : r = 15 := by rw [unhide ER]; rfl
            subst e1
            clear ER
            go_enter Try.func56, Try.ntmps56
            go_wp2
            go_ret
            exact ⟨rfl, rfl⟩
        | true =>
          cases a6 with
          | true =>
            have e1 : r = 4 := by rw [unhide ER]; rfl
            subst e1
            clear ER
            go_enter Try.func56, Try.ntmps56
            go_wp2
            go_ret
            exact ⟨rfl, rfl⟩
          | false =>
            cases a7 with
            | true =>
              have e1 : r = 8 := by rw [unhide ER]; rfl
              subst e1
              clear ER
              go_enter Try.func56, Try.ntmps56
              go_wp2
              go_ret
              exact ⟨rfl, rfl⟩
            | false =>
              have e1 : r = 15 := by rw [unhide ER]; rfl
              subst e1
              clear ER
              go_enter Try.func56, Try.ntmps56
              go_wp2
              go_ret
              exact ⟨rfl, rfl⟩
  | true =>
    cases a2 with
    | true =>
      have e1 : r = 1 := by rw [unhide ER]; rfl
      subst e1
      clear ER
      go_enter Try.func56, Try.ntmps56
      go_wp2
      go_ret
      exact ⟨rfl, rfl⟩
    | false =>
      cases a3 with
      | false =>
        cases a5 with
        | false =>
          cases a7 with
          | true =>
            have e1 : r = 8 := by rw [unhide ER]; rfl
            subst e1
            clear ER
            go_enter Try.func56, Try.ntmps56
            go_wp2
            go_ret
            exact ⟨rfl, rfl⟩
          | false =>
            have e1 : r = 15 := by rw [unhide ER]; rfl
            subst e1
            clear ER
            go_enter Try.func56, Try.ntmps56
            go_wp2
            go_ret
            exact ⟨rfl, rfl⟩
        | true =>
          cases a6 with
          | true =>
            have e1 : r = 4 := by rw [unhide ER]; rfl
            subst e1
            clear ER
            go_enter Try.func56, Try.ntmps56
            go_wp2
            go_ret
            exact ⟨rfl, rfl⟩
          | false =>
            cases a7 with
            | true =>
              have e1 : r = 8 := by rw [unhide ER]; rfl
              subst e1
              clear ER
              go_enter Try.func56, Try.ntmps56
              go_wp2
              go_ret
              exact ⟨rfl, rfl⟩
            | false =>
              have e1 : r = 15 := by rw [unhide ER]; rfl
              subst e1
              clear ER
              go_enter Try.func56, Try.ntmps56
              go_wp2
              go_ret
              exact ⟨rfl, rfl⟩
      | true =>
        cases a4 with
        | true =>
          have e1 : r = 2 := by rw [unhide ER]; rfl
          subst e1
          clear ER
          go_enter Try.func56, Try.ntmps56
          go_wp2
          go_ret
          exact ⟨rfl, rfl⟩
        | false =>
          cases a5 with
          | false =>
            cases a7 with
            | true =>
              have e1 : r = 8 := by rw [unhide ER]; rfl
              subst e1
              clear ER
              go_enter Try.func56, Try.ntmps56
              go_wp2
              go_ret
              exact ⟨rfl, rfl⟩
            | false =>
              have e1 : r = 15 := by rw [unhide ER]; rfl
              subst e1
              clear ER
              go_enter Try.func56, Try.ntmps56
              go_wp2
              go_ret
              exact ⟨rfl, rfl⟩
          | true =>
            cases a6 with
            | true =>
              have e1 : r = 4 := by rw [unhide ER]; rfl
              subst e1
              clear ER
              go_enter Try.func56, Try.ntmps56
              go_wp2
              go_ret
              exact ⟨rfl, rfl⟩
            | false =>
              cases a7 with
              | true =>
                have e1 : r = 8 := by rw [unhide ER]; rfl
                subst e1
                clear ER
                go_enter Try.func56, Try.ntmps56
                go_wp2
                go_ret
                exact ⟨rfl, rfl⟩
              | false =>
                have e1 : r = 15 := by rw [unhide ER]; rfl
                subst e1
                clear ER
                go_enter Try.func56, Try.ntmps56
                go_wp2
                go_ret
                exact ⟨rfl, rfl⟩

theorem rowB_ownSl {B' B : Nat} {w : World} {ao : Option Addr} {k cp : Nat} {L : List Int} (hB : B' ≤ B) (h : RowB 3 1 eI B w ao k cp L) : OwnSl B' w (.slice ao k cp) L := by
  have hl := h.len (by omega)
  rcases h.parts (by omega) with ⟨rfl, rfl, rfl, rfl⟩ | ⟨g, rfl, hg, hlt, hc, hm, ho⟩
  · exact ⟨none, 0, rfl, Nat.le_refl _, Nat.zero_le _, fun h => absurd rfl h⟩
  · exact ⟨_, cp, by rw [hl], by omega, hm, fun _ => ⟨g, rfl, by omega, by rw [← recI]; exact ho⟩⟩

set_option maxRecDepth 10000 in
set_option maxHeartbeats 8000000 in
theorem implOneWay_any (wide high : Int) (w : World) :
    Calls Try.prog 22 #[.int .i64 wide, .int .i64 high] w fun e w' => ∃ a n cp, e = .returned (.tuple #[vFloor (oneZ wide high wide) (oneZ wide high high) (.slice a n cp), .bool (oneB wide high)]) ∧ OwnSl w.heap.size w' (.slice a n cp) (oneL wide high) ∧ Below w.heap.size w w' := by
  have nil : ∀ W a, OwnSl w.heap.size W (.slice a 0 0) [] := fun W a => ⟨a, 0, rfl, Nat.le_refl _, Nat.zero_le _, fun h => absurd rfl h⟩
  obtain ⟨RV, eRV⟩ : ∃ z, z = oneL wide high := ⟨_, rfl⟩
  obtain ⟨RB, eRB⟩ : ∃ z, z = oneB wide high := ⟨_, rfl⟩
  rw [← eRV, ← eRB]
  have HZ : Hid (∀ x, oneZ wide high x = bif RB then x else 0) := fun x => by rw [eRB]; rfl
  have HV : Hid (RV = bif RB then ringL wide.toNat high.toNat (wide.toNat * high.toNat) else []) := by show _ = _; rw [eRV, eRB]; rfl
  have HB : Hid (RB = (inB wide 2 10 && inB high 2 10)) := by show _ = _; rw [eRB]; rfl
  clear eRV eRB
  have hA := Below.alloc1 w (.cells #[.int .i64 0, .int .i64 0, .slice none 0 0] 26)
  have HR := hide (ownV_alloc w #[.int .i64 0, .int .i64 0, .slice none 0 0] 26)
  have HW := hide hA
  clear hA
  have Q1 := hide fun V => within_any wide 2 10 V
  have Q2 := hide fun V => within_any high 2 10 V
  unfold vFloor
  go_enter Try.func22, Try.ntmps22
  go_upto_region 1 with (fail)
  obtain ⟨gr, egr⟩ : ∃ z, z = w.heap.size := ⟨_, rfl⟩
  obtain ⟨W0, eW0⟩ : ∃ z, z = w.alloc (.cells #[.int .i64 0, .int .i64 0, .slice none 0 0] 26) := ⟨_, rfl⟩
  rw [← eW0] at HR HW ⊢
  rw [← egr] at HR ⊢
  have hgr : w.heap.size ≤ gr := by omega
  clear egr eW0
  cases h1 : inB wide 2 10 with
  | false =>
    have e2 : RB = false := by rw [unhide HB, h1]; rfl
    subst e2
    have e1 : RV = [] := unhide HV
    subst e1
    rw [h1] at Q1
    go_wp2_with fail
    refine (unhide Q1 _).mono ?_
    rintro e w9 ⟨rfl, h9⟩
    have h8 := h9.symm
    subst h8
    clear h9
    have r0 := (unhide HR).cell (i := 0) rfl
    have r1 := (unhide HR).cell (i := 1) rfl
    have r2 := (unhide HR).cell (i := 2) rfl
    have rf := (unhide HR).frozen
    have HN := hide ((((unhide HR).set 0 (.int .i64 0) (by simp)).set 1 (.int .i64 0) (by simp)).set 2 (.slice none 0 0) (by simp))
    have HWN := hide ((((unhide HW).setCell (p := ⟨gr, 0, none⟩) hgr (.int .i64 0)).setCell (p := ⟨gr, 1, none⟩) hgr (.int .i64 0)).setCell (p := ⟨gr, 2, none⟩) hgr (.slice none 0 0))
    go_wp2
    have k0 := (unhide HN).cell (i := 0) rfl
    have k1 := (unhide HN).cell (i := 1) rfl
    have k2 := (unhide HN).cell (i := 2) rfl
    refine bodyPost_ret (v := .tuple #[.agg #[.int .i64 0, .int .i64 0, .slice none 0 0], .bool false]) (by simp [results, Try.results22, go_sem, k0, k1, k2]) rfl ⟨none, 0, 0, by rw [unhide HZ, unhide HZ]; rfl, nil _ _, unhide HWN⟩
  | true =>
  rw [h1] at Q1
  cases h2 : inB high 2 10 with
  | false =>
    have e2 : RB = false := by rw [unhide HB, h1, h2]; rfl
    subst e2
    have e1 : RV = [] := unhide HV
    subst e1
    rw [h2] at Q2
    go_wp2_with fail
    refine (unhide Q1 _).mono ?_
    rintro e w9 ⟨rfl, h9⟩
    have h8 := h9.symm
    subst h8
    clear h9
    go_wp2_with fail
    refine (unhide Q2 _).mono ?_
    rintro e w9 ⟨rfl, h9⟩
    have h8 := h9.symm
    subst h8
    clear h9
    have r0 := (unhide HR).cell (i := 0) rfl
    have r1 := (unhide HR).cell (i := 1) rfl
    have r2 := (unhide HR).cell (i := 2) rfl
    have rf := (unhide HR).frozen
    have HN := hide ((((unhide HR).set 0 (.int .i64 0) (by simp)).set 1 (.int .i64 0) (by simp)).set 2 (.slice none 0 0) (by simp))
    have HWN := hide ((((unhide HW).setCell (p := ⟨gr, 0, none⟩) hgr (.int .i64 0)).setCell (p := ⟨gr, 1, none⟩) hgr (.int .i64 0)).setCell (p := ⟨gr, 2, none⟩) hgr (.slice none 0 0))
    go_wp2
    have k0 := (unhide HN).cell (i := 0) rfl
    have k1 := (unhide HN).cell (i := 1) rfl
    have k2 := (unhide HN).cell (i := 2) rfl
    refine bodyPost_ret (v := .tuple #[.agg #[.int .i64 0, .int .i64 0, .slice none 0 0], .bool false]) (by simp [results, Try.results22, go_sem, k0, k1, k2]) rfl ⟨none, 0, 0, by rw [unhide HZ, unhide HZ]; rfl, nil _ _, unhide HWN⟩
  | true =>
  have e2 : RB = true := by rw [unhide HB, h1, h2]; rfl
  subst e2
  rw [h2] at Q2
  obtain ⟨a1, a2⟩ := inB_true h1
  obtain ⟨a3, a4⟩ := inB_true h2
  obtain ⟨wn, rfl⟩ : ∃ n : Nat, wide = (n : Int) := ⟨wide.toNat, by omega⟩
  obtain ⟨hn, rfl⟩ : ∃ n : Nat, high = (n : Int) := ⟨high.toNat, by omega⟩
  have EV : Hid (RV = ringL wn hn (wn * hn)) := by have := unhide HV; rw [Int.toNat_natCast, Int.toNat_natCast] at this; exact this
  have hwn : wn ≤ 10 := by omega
  have hhn : hn ≤ 10 := by omega
  have hwh := mul_n10 hwn hhn
  have z1 : IntKind.i64.wrap ((wn : Int) - 1) = (wn : Int) - 1 := by rw [IntKind.wrap_i64]; omega
  have z2 : IntKind.i64.wrap ((hn : Int) - 1) = (hn : Int) - 1 := by rw [IntKind.wrap_i64]; omega
  clear HV HB h1 h2 nil
  go_wp2_with fail
  refine (unhide Q1 _).mono ?_
  rintro e w9 ⟨rfl, h9⟩
  have h8 := h9.symm
  subst h8
  clear h9
  go_wp2_with fail
  refine (unhide Q2 _).mono ?_
  rintro e w9 ⟨rfl, h9⟩
  have h8 := h9.symm
  subst h8
  clear h9 Q1 Q2
  go_upto_region 4 with (fail)
  obtain ⟨gf, egf⟩ : ∃ z, z = W0.heap.size := ⟨_, rfl⟩
  have hA := Below.alloc1 W0 (.cells #[.int .i64 (wn : Int), .int .i64 (hn : Int), .slice none 0 0] 26)
  have HF := hide (ownV_alloc W0 #[.int .i64 (wn : Int), .int .i64 (hn : Int), .slice none 0 0] 26)
  have HR1 := hide ((unhide HR).step hA)
  have HW1 := hide (Below.step (unhide HW) hA)
  have hgf : gr < gf := by rw [egf]; exact (unhide HR).lt
  obtain ⟨W1, eW1⟩ : ∃ z, z = W0.alloc (.cells #[.int .i64 (wn : Int), .int .i64 (hn : Int), .slice none 0 0] 26) := ⟨_, rfl⟩
  rw [← eW1] at HF HR1 HW1 ⊢
  rw [← egf] at HF ⊢
  clear hA egf eW1 HR HW
  have HRW := hide (rowB_nil (α := Int) 3 1 eI (gf + 1) W1)
  go_wp2
  go_loopg [22] hn (fun gg i wr => ∃ (y : Nat) (ao : Option Addr) (k cp : Nat), y ≤ hn ∧ gg = hn - y ∧ i = .int .i64 y ∧ k = y * wn ∧ Hid (OwnV wr gf [.int .i64 (wn : Int), .int .i64 (hn : Int), .slice ao k cp]) ∧ Hid (RowB 3 1 eI (gf + 1) wr ao k cp (ringL wn hn k)) ∧ Hid (OwnV wr gr [.int .i64 0, .int .i64 0, .slice none 0 0]) ∧ Hid (Below w.heap.size w wr))
  case atStart => exact ⟨0, none, 0, 0, Nat.zero_le _, rfl, rfl, by omega, HF, HRW, HR1, HW1⟩
  case round =>
    clear HF HRW HR1 HW1
    obtain ⟨y, ao, k, cp, hy, rfl, rfl, hk, HF, HRW, HR, HW⟩ := hrel
    by_cases hyn : y < hn
    case neg =>
      have hyi : ¬ (y : Int) < hn := by omega
      have hk2 : k = wn * hn := by rw [hk, show y = hn by omega, Nat.mul_comm]
      have f0 := (unhide HF).cell (i := 0) rfl
      have f1 := (unhide HF).cell (i := 1) rfl
      have f2 := (unhide HF).cell (i := 2) rfl
      have r0 := (unhide HR).cell (i := 0) rfl
      have r1 := (unhide HR).cell (i := 1) rfl
      have r2 := (unhide HR).cell (i := 2) rfl
      have rf := (unhide HR).frozen
      have HN := hide ((((unhide HR).set 0 (.int .i64 (wn : Int)) (by simp)).set 1 (.int .i64 (hn : Int)) (by simp)).set 2 (.slice ao k cp) (by simp))
      have HWN := hide ((((unhide HW).setCell (p := ⟨gr, 0, none⟩) hgr (.int .i64 (wn : Int))).setCell (p := ⟨gr, 1, none⟩) hgr (.int .i64 (hn : Int))).setCell (p := ⟨gr, 2, none⟩) hgr (.slice ao k cp))
      have HKS := hide ((((Kept.refl (fun b => b = gr) wr).setCell (p := ⟨gr, 0, none⟩) rfl (.int .i64 (wn : Int))).setCell (p := ⟨gr, 1, none⟩) rfl (.int .i64 (hn : Int))).setCell (p := ⟨gr, 2, none⟩) rfl (.slice ao k cp))
      have HRN := hide ((unhide HRW).kept (unhide HKS) (fun g _ hg _ e => by omega))
      have HK2 := hide hk2
      clear hk hk2 HRW HF HR HW HKS
      go_wp2
      have k0 := (unhide HN).cell (i := 0) rfl
      have k1 := (unhide HN).cell (i := 1) rfl
      have k2 := (unhide HN).cell (i := 2) rfl
      refine bodyPost_ret (v := .tuple #[.agg #[.int .i64 (wn : Int), .int .i64 (hn : Int), .slice ao k cp], .bool true]) (by simp [results, Try.results22, go_sem, k0, k1, k2]) rfl ⟨ao, k, cp, by rw [unhide HZ, unhide HZ]; rfl, ?_, unhide HWN⟩
      rw [unhide EV, ← unhide HK2]
      exact rowB_ownSl (Nat.le_of_lt (Nat.lt_succ_of_lt (Nat.lt_of_le_of_lt hgr hgf))) (unhide HRN)
    have hyi : (y : Int) < hn := by omega
    have hyw : y * wn + wn ≤ wn * hn := by rw [← Nat.succ_mul, Nat.mul_comm wn hn]; exact Nat.mul_le_mul_right _ hyn
    go_wp2
    go_loopg [26] wn (fun gg i wr => ∃ (x : Nat) (ao : Option Addr) (k cp : Nat), x ≤ wn ∧ gg = wn - x ∧ i = .int .i64 x ∧ k = y * wn + x ∧ Hid (OwnV wr gf [.int .i64 (wn : Int), .int .i64 (hn : Int), .slice ao k cp]) ∧ Hid (RowB 3 1 eI (gf + 1) wr ao k cp (ringL wn hn k)) ∧ Hid (OwnV wr gr [.int .i64 0, .int .i64 0, .slice none 0 0]) ∧ Hid (Below w.heap.size w wr))
    case atStart => exact ⟨0, ao, k, cp, Nat.zero_le _, rfl, rfl, by omega, HF, HRW, HR, HW⟩
    case round =>
      clear HF HRW HR HW
      obtain ⟨x, ao, k, cp, hx, rfl, rfl, hk', HF, HRW, HR, HW⟩ := hrel
      by_cases hxn : x < wn
      case neg =>
        have hxi : ¬ (x : Int) < wn := by omega
        have hk2 : k = (y + 1) * wn := by rw [hk', Nat.succ_mul]; omega
        clear hk'
        go_wp2
        go_roundg (hn - (y + 1))
        case measure => omega
        case rel => exact ⟨y + 1, ao, k, cp, by omega, rfl, by go_num, hk2, HF, HRW, HR, HW⟩
      have hxi : (x : Int) < wn := by omega
      have HSU := hide (ringL_succ (wd := wn) (hg := hn) (y := y) hxn)
      rw [← hk'] at HSU
      have hk1 : k ≤ 1000 := by omega
      have hk3 : k + 1 = y * wn + (x + 1) := by omega
      rw [← hk3] at HSU
      have HK3 := hide hk3
      have HK := hide hk'
      clear hk' hk3 hyw
      obtain ⟨rV, erV⟩ : ∃ r, r = ringV (x : Int) (y : Int) ((wn : Int) - 1) ((hn : Int) - 1) := ⟨_, rfl⟩
      have HRQ := hide fun V => ringWays_any (x : Int) (y : Int) ((wn : Int) - 1) ((hn : Int) - 1) V
      rw [← erV] at HSU HRQ
      clear erV
      go_upto_region 10 with (fail)
      obtain ⟨wd, ewd⟩ : ∃ z, z = wr.drew := ⟨_, rfl⟩
      have hb : Below wr.heap.size wr wd := by rw [ewd]; exact (Below.refl _ _).drew
      replace HF := hide ((unhide HF).step hb)
      replace HRW := hide ((unhide HRW).below hb)
      replace HR := hide ((unhide HR).step hb)
      replace HW := hide (Below.step (unhide HW) hb)
      clear hb
      refine wp_region_held_drew (S := fun w' => w'.cell? ⟨gf, 0, none⟩ = some (.int .i64 (wn : Int))) (by kernel_rfl) (by rw [← ewd]; exact (unhide HF).cell (i := 0) rfl) (fun hHeld => ?_)
      rw [← ewd] at hHeld ⊢
      clear ewd
      have f2 := (unhide HF).cell (i := 2) rfl
      refine wpAnyH_take (i := 0) (v := ?_) rfl (by kernel_rfl) (by kernel_rfl) (by kernel_rfl) (fun _ _ _ h => h) (Or.inl ⟨by rfl, ?_⟩) (by assumption) ?_
      rotate_left
      · intro wy hSw
        have hS0 := hSw
        go_simp
        try with_reducible rfl
      try simp only [Act.put, List.getElem_toArray, List.getElem_cons_zero, List.setIfInBounds_toArray, List.set_cons_zero, List.set_cons_succ]
      refine wpAnyH_take (i := 2) (v := ?_) rfl (by kernel_rfl) (by kernel_rfl) (by kernel_rfl) (fun _ _ _ h => h) (Or.inl ⟨by rfl, ?_⟩) (by assumption) ?_
      rotate_left
      · intro wy hSw
        have hS0 := hSw
        go_simp
        try with_reducible rfl
      try simp only [Act.put, List.getElem_toArray, List.getElem_cons_succ, List.getElem_cons_zero, List.setIfInBounds_toArray, List.set_cons_zero, List.set_cons_succ]
      refine wpAnyH_take (i := 3) (v := ?_) rfl (by kernel_rfl) (by kernel_rfl) (by kernel_rfl) (fun _ _ _ h => h) (Or.inl ⟨by rfl, ?_⟩) (by assumption) ?_
      rotate_left
      · intro wy hSw
        have hS0 := hSw
        go_simp
        try with_reducible rfl
      try simp only [Act.put, List.getElem_toArray, List.getElem_cons_succ, List.getElem_cons_zero, List.setIfInBounds_toArray, List.set_cons_zero, List.set_cons_succ]
      refine wpAnyH_take (i := 4) (v := ?_) rfl (by kernel_rfl) (by kernel_rfl) (by kernel_rfl) (fun _ _ _ h => h) (Or.inl ⟨by rfl, ?_⟩) (by assumption) ?_
      rotate_left
      · intro wy hSw
        have hS0 := hSw
        go_simp
        try with_reducible rfl
      try simp only [Act.put, List.getElem_toArray, List.getElem_cons_succ, List.getElem_cons_zero, List.setIfInBounds_toArray, List.set_cons_zero, List.set_cons_succ]
      refine wpAnyH_take (i := 5) (v := ?_) rfl (by kernel_rfl) (by kernel_rfl) (by kernel_rfl) (fun _ _ _ h => h) (Or.inl ⟨by rfl, ?_⟩) (by assumption) ?_
      rotate_left
      · intro wy hSw
        have hS0 := hSw
        go_simp
        try with_reducible rfl
      try simp only [Act.put, List.getElem_toArray, List.getElem_cons_succ, List.getElem_cons_zero, List.setIfInBounds_toArray, List.set_cons_zero, List.set_cons_succ]
      refine wpAnyH_take (i := 6) (v := ?_) rfl (by kernel_rfl) (by kernel_rfl) (by kernel_rfl) (fun _ _ _ h => h) (Or.inl ⟨by rfl, ?_⟩) (by assumption) ?_
      rotate_left
      · intro wy hSw
        have hS0 := hSw
        go_simp
        try with_reducible rfl
      try simp only [Act.put, List.getElem_toArray, List.getElem_cons_succ, List.getElem_cons_zero, List.setIfInBounds_toArray, List.set_cons_zero, List.set_cons_succ]
      refine wpAnyH_take (i := 7) (v := ?_) rfl (by kernel_rfl) (by kernel_rfl) (by kernel_rfl) (fun _ _ _ h => h) (Or.inl ⟨by rfl, ?_⟩) (by assumption) ?_
      rotate_left
      · intro wy hSw
        have hS0 := hSw
        go_simp
        try with_reducible rfl
      try simp only [Act.put, List.getElem_toArray, List.getElem_cons_succ, List.getElem_cons_zero, List.setIfInBounds_toArray, List.set_cons_zero, List.set_cons_succ]
      refine wpAnyH_ready (rs := [1, 8]) (by kernel_rfl) (by simp) ?_
      refine AllReadyH.cons rfl (fun K hK => ?_) (AllReadyH.cons rfl (fun K hK => ?_) AllReadyH.nil)
      · go_simp
        refine hK.out _ _ hHeld (fun hHeld => ?_)
        clear hK K
        try simp only [Act.put, List.setIfInBounds_toArray, List.set_cons_zero, List.set_cons_succ]
        refine wpAnyH_ready (rs := [8]) (by kernel_rfl) (by simp) ?_
        refine AllReadyH.cons rfl (fun K hK => ?_) AllReadyH.nil
        go_simp
        refine (unhide HRQ _).mono ?_
        rintro e w9 ⟨rfl, h9⟩
        have h8 := h9.symm
        subst h8
        clear h9
        refine hK.out _ _ hHeld (fun hHeld => ?_)
        clear hK K
        try simp only [Act.put, List.setIfInBounds_toArray, List.set_cons_zero, List.set_cons_succ]
        refine wpAnyH_ready (rs := [9]) (by kernel_rfl) (by simp) ?_
        refine AllReadyH.cons rfl (fun K hK => ?_) AllReadyH.nil
        have hA := Below.alloc1 wd (.cells #[.int .i64 rV] 3)
        have HRA := hide ((unhide HRW).below hA)
        have HXA := hide (recs_oneI wd rV 3)
        have HFA := hide ((unhide HF).step hA)
        have HZA := hide ((unhide HR).step hA)
        have HWA := hide (Below.step (unhide HW) hA)
        go_simp
        obtain ⟨wa, ewa⟩ : ∃ z, z = wd.alloc (.cells #[.int .i64 rV] 3) := ⟨_, rfl⟩
        obtain ⟨ga, ega⟩ : ∃ z, z = wd.heap.size := ⟨_, rfl⟩
        rw [← ewa] at HRA HXA HFA HZA HWA ⊢
        rw [← ega] at HXA ⊢
        have hgf2 := (unhide HFA).lt
        clear hA ewa ega HF HRW HR HW HRQ f2
        refine hK.out _ _ ((unhide HFA).cell (i := 0) rfl) (fun hHeld => ?_)
        clear hK K
        try simp only [Act.put, List.setIfInBounds_toArray, List.set_cons_zero, List.set_cons_succ]
        refine wpAnyH_ready (rs := [10]) (by kernel_rfl) (by simp) ?_
        refine AllReadyH.cons rfl (fun K hK => ?_) AllReadyH.nil
        refine step_appOne tyI (by rfl) (.tmp 30) (.tmp 38) (by rfl) (gf + 1) ao k cp (ringL wn hn k) (by rfl) (unhide HRA) (by omega) (by omega) (some ⟨ga, 0, none⟩) 1 rV (by rfl) (unhide HXA) ?_
        intro g1 c1 w5 hr1 hk5 hg1 hor
        have hT : ∀ b, ao = some ⟨b, 0, none⟩ → gf + 1 ≤ b := fun b e => by
          rcases (unhide HRA).parts (by omega) with ⟨e2, _⟩ | ⟨g, e2, hg, _⟩
          · rw [e2] at e; cases e
          · rw [e2] at e; simp only [Option.some.injEq, Addr.mk.injEq, and_true] at e; omega
        have HF5 := hide ((unhide HFA).kept hk5 (fun e => by have := hT _ e; omega))
        have HR5 := hide ((unhide HZA).kept hk5 (fun e => by have := hT _ e; omega))
        have HW5 := hide ((unhide HWA).trans (hk5.below (unhide HWA).size (fun b e => by have := hT _ e; omega)))
        rw [unhide HSU] at hr1
        have HRN := hide hr1
        clear hr1 hk5 hT HRA HXA HFA HZA HWA hor hg1
        refine hK.out _ _ ((unhide HF5).cell (i := 0) rfl) (fun hHeld => ?_)
        clear hK K
        try simp only [Act.put, List.setIfInBounds_toArray]
        refine wpAnyH_take (i := 11) (v := ?_) rfl (by kernel_rfl) (by kernel_rfl) (by kernel_rfl) (fun _ _ _ h => h) (Or.inl ⟨by rfl, ?_⟩) (by assumption) ?_
        rotate_left
        · intro wy hSw
          have hS0 := hSw
          go_simp
          try with_reducible rfl
        try simp only [Act.put, List.getElem_toArray, List.getElem_cons_succ, List.getElem_cons_zero, List.setIfInBounds_toArray, List.set_cons_zero, List.set_cons_succ]
        refine wpAnyH_ready (rs := [12]) (by kernel_rfl) (by simp) ?_
        refine AllReadyH.cons rfl (fun K hK => ?_) AllReadyH.nil
        have f2 := (unhide HF5).cell (i := 2) rfl
        have ff := (unhide HF5).frozen 2
        have HFN := hide ((unhide HF5).set 2 (.slice (some ⟨g1, 0, none⟩) (k + 1) c1) (by simp))
        have HKS := hide ((Kept.refl (fun b => b = gf) w5).setCell (p := ⟨gf, 2, none⟩) rfl (.slice (some ⟨g1, 0, none⟩) (k + 1) c1))
        have HRZ := hide ((unhide HRN).kept (unhide HKS) (fun g e hg _ e2 => by omega))
        have HZZ := hide ((unhide HR5).kept (unhide HKS) (fun e2 => by omega))
        have HWZ := hide ((unhide HW5).setCell (p := ⟨gf, 2, none⟩) (by show w.heap.size ≤ gf; omega) (.slice (some ⟨g1, 0, none⟩) (k + 1) c1))
        clear HF5 HR5 HW5 HRN HKS
        go_simp
        refine hK.out _ _ ((unhide HFN).cell (i := 0) rfl) (fun hHeld => ?_)
        clear hK K
        try simp only [Act.put, List.setIfInBounds_toArray, List.set_cons_zero, List.set_cons_succ]
        refine wpAnyH_done (by kernel_rfl) ?_ _
        go_wp2
        go_roundg (wn - (x + 1))
        case measure => omega
        case rel => exact ⟨x + 1, some ⟨g1, 0, none⟩, k + 1, c1, by omega, rfl, by go_num, unhide HK3, HFN, HRZ, HZZ, HWZ⟩
      · go_simp
        refine (unhide HRQ _).mono ?_
        rintro e w9 ⟨rfl, h9⟩
        have h8 := h9.symm
        subst h8
        clear h9
        refine hK.out _ _ hHeld (fun hHeld => ?_)
        clear hK K
        try simp only [Act.put, List.setIfInBounds_toArray, List.set_cons_zero, List.set_cons_succ]
        refine wpAnyH_ready (rs := [1, 9]) (by kernel_rfl) (by simp) ?_
        refine AllReadyH.cons rfl (fun K hK => ?_) (AllReadyH.cons rfl (fun K hK => ?_) AllReadyH.nil)
        · go_simp
          refine hK.out _ _ hHeld (fun hHeld => ?_)
          clear hK K
          try simp only [Act.put, List.setIfInBounds_toArray, List.set_cons_zero, List.set_cons_succ]
          refine wpAnyH_ready (rs := [9]) (by kernel_rfl) (by simp) ?_
          refine AllReadyH.cons rfl (fun K hK => ?_) AllReadyH.nil
          have hA := Below.alloc1 wd (.cells #[.int .i64 rV] 3)
          have HRA := hide ((unhide HRW).below hA)
          have HXA := hide (recs_oneI wd rV 3)
          have HFA := hide ((unhide HF).step hA)
          have HZA := hide ((unhide HR).step hA)
          have HWA := hide (Below.step (unhide HW) hA)
          go_simp
          obtain ⟨wa, ewa⟩ : ∃ z, z = wd.alloc (.cells #[.int .i64 rV] 3) := ⟨_, rfl⟩
          obtain ⟨ga, ega⟩ : ∃ z, z = wd.heap.size := ⟨_, rfl⟩
          rw [← ewa] at HRA HXA HFA HZA HWA ⊢
          rw [← ega] at HXA ⊢
          have hgf2 := (unhide HFA).lt
          clear hA ewa ega HF HRW HR HW HRQ f2
          refine hK.out _ _ ((unhide HFA).cell (i := 0) rfl) (fun hHeld => ?_)
          clear hK K
          try simp only [Act.put, List.setIfInBounds_toArray, List.set_cons_zero, List.set_cons_succ]
          refine wpAnyH_ready (rs := [10]) (by kernel_rfl) (by simp) ?_
          refine AllReadyH.cons rfl (fun K hK => ?_) AllReadyH.nil
          refine step_appOne tyI (by rfl) (.tmp 30) (.tmp 38) (by rfl) (gf + 1) ao k cp (ringL wn hn k) (by rfl) (unhide HRA) (by omega) (by omega) (some ⟨ga, 0, none⟩) 1 rV (by rfl) (unhide HXA) ?_
          intro g1 c1 w5 hr1 hk5 hg1 hor
          have hT : ∀ b, ao = some ⟨b, 0, none⟩ → gf + 1 ≤ b := fun b e => by
            rcases (unhide HRA).parts (by omega) with ⟨e2, _⟩ | ⟨g, e2, hg, _⟩
            · rw [e2] at e; cases e
            · rw [e2] at e; simp only [Option.some.injEq, Addr.mk.injEq, and_true] at e; omega
          have HF5 := hide ((unhide HFA).kept hk5 (fun e => by have := hT _ e; omega))
          have HR5 := hide ((unhide HZA).kept hk5 (fun e => by have := hT _ e; omega))
          have HW5 := hide ((unhide HWA).trans (hk5.below (unhide HWA).size (fun b e => by have := hT _ e; omega)))
          rw [unhide HSU] at hr1
          have HRN := hide hr1
          clear hr1 hk5 hT HRA HXA HFA HZA HWA hor hg1
          refine hK.out _ _ ((unhide HF5).cell (i := 0) rfl) (fun hHeld => ?_)
          clear hK K
          try simp only [Act.put, List.setIfInBounds_toArray]
          refine wpAnyH_take (i := 11) (v := ?_) rfl (by kernel_rfl) (by kernel_rfl) (by kernel_rfl) (fun _ _ _ h => h) (Or.inl ⟨by rfl, ?_⟩) (by assumption) ?_
          rotate_left
          · intro wy hSw
            have hS0 := hSw
            go_simp
            try with_reducible rfl
          try simp only [Act.put, List.getElem_toArray, List.getElem_cons_succ, List.getElem_cons_zero, List.setIfInBounds_toArray, List.set_cons_zero, List.set_cons_succ]
          refine wpAnyH_ready (rs := [12]) (by kernel_rfl) (by simp) ?_
          refine AllReadyH.cons rfl (fun K hK => ?_) AllReadyH.nil
          have f2 := (unhide HF5).cell (i := 2) rfl
          have ff := (unhide HF5).frozen 2
          have HFN := hide ((unhide HF5).set 2 (.slice (some ⟨g1, 0, none⟩) (k + 1) c1) (by simp))
          have HKS := hide ((Kept.refl (fun b => b = gf) w5).setCell (p := ⟨gf, 2, none⟩) rfl (.slice (some ⟨g1, 0, none⟩) (k + 1) c1))
          have HRZ := hide ((unhide HRN).kept (unhide HKS) (fun g e hg _ e2 => by omega))
          have HZZ := hide ((unhide HR5).kept (unhide HKS) (fun e2 => by omega))
          have HWZ := hide ((unhide HW5).setCell (p := ⟨gf, 2, none⟩) (by show w.heap.size ≤ gf; omega) (.slice (some ⟨g1, 0, none⟩) (k + 1) c1))
          clear HF5 HR5 HW5 HRN HKS
          go_simp
          refine hK.out _ _ ((unhide HFN).cell (i := 0) rfl) (fun hHeld => ?_)
          clear hK K
          try simp only [Act.put, List.setIfInBounds_toArray, List.set_cons_zero, List.set_cons_succ]
          refine wpAnyH_done (by kernel_rfl) ?_ _
          go_wp2
          go_roundg (wn - (x + 1))
          case measure => omega
          case rel => exact ⟨x + 1, some ⟨g1, 0, none⟩, k + 1, c1, by omega, rfl, by go_num, unhide HK3, HFN, HRZ, HZZ, HWZ⟩
        · have hA := Below.alloc1 wd (.cells #[.int .i64 rV] 3)
          have HRA := hide ((unhide HRW).below hA)
          have HXA := hide (recs_oneI wd rV 3)
          have HFA := hide ((unhide HF).step hA)
          have HZA := hide ((unhide HR).step hA)
          have HWA := hide (Below.step (unhide HW) hA)
          go_simp
          obtain ⟨wa, ewa⟩ : ∃ z, z = wd.alloc (.cells #[.int .i64 rV] 3) := ⟨_, rfl⟩
          obtain ⟨ga, ega⟩ : ∃ z, z = wd.heap.size := ⟨_, rfl⟩
          rw [← ewa] at HRA HXA HFA HZA HWA ⊢
          rw [← ega] at HXA ⊢
          have hgf2 := (unhide HFA).lt
          clear hA ewa ega HF HRW HR HW HRQ f2
          refine hK.out _ _ ((unhide HFA).cell (i := 0) rfl) (fun hHeld => ?_)
          clear hK K
          try simp only [Act.put, List.setIfInBounds_toArray, List.set_cons_zero, List.set_cons_succ]
          refine wpAnyH_ready (rs := [1]) (by kernel_rfl) (by simp) ?_
          refine AllReadyH.cons rfl (fun K hK => ?_) AllReadyH.nil
          have f2 := (unhide HFA).cell (i := 2) rfl
          go_simp
          clear f2
          refine hK.out _ _ ((unhide HFA).cell (i := 0) rfl) (fun hHeld => ?_)
          clear hK K
          try simp only [Act.put, List.setIfInBounds_toArray, List.set_cons_zero, List.set_cons_succ]
          refine wpAnyH_ready (rs := [10]) (by kernel_rfl) (by simp) ?_
          refine AllReadyH.cons rfl (fun K hK => ?_) AllReadyH.nil
          refine step_appOne tyI (by rfl) (.tmp 30) (.tmp 38) (by rfl) (gf + 1) ao k cp (ringL wn hn k) (by rfl) (unhide HRA) (by omega) (by omega) (some ⟨ga, 0, none⟩) 1 rV (by rfl) (unhide HXA) ?_
          intro g1 c1 w5 hr1 hk5 hg1 hor
          have hT : ∀ b, ao = some ⟨b, 0, none⟩ → gf + 1 ≤ b := fun b e => by
            rcases (unhide HRA).parts (by omega) with ⟨e2, _⟩ | ⟨g, e2, hg, _⟩
            · rw [e2] at e; cases e
            · rw [e2] at e; simp only [Option.some.injEq, Addr.mk.injEq, and_true] at e; omega
          have HF5 := hide ((unhide HFA).kept hk5 (fun e => by have := hT _ e; omega))
          have HR5 := hide ((unhide HZA).kept hk5 (fun e => by have := hT _ e; omega))
          have HW5 := hide ((unhide HWA).trans (hk5.below (unhide HWA).size (fun b e => by have := hT _ e; omega)))
          rw [unhide HSU] at hr1
          have HRN := hide hr1
          clear hr1 hk5 hT HRA HXA HFA HZA HWA hor hg1
          refine hK.out _ _ ((unhide HF5).cell (i := 0) rfl) (fun hHeld => ?_)
          clear hK K
          try simp only [Act.put, List.setIfInBounds_toArray]
          refine wpAnyH_take (i := 11) (v := ?_) rfl (by kernel_rfl) (by kernel_rfl) (by kernel_rfl) (fun _ _ _ h => h) (Or.inl ⟨by rfl, ?_⟩) (by assumption) ?_
          rotate_left
          · intro wy hSw
            have hS0 := hSw
            go_simp
            try with_reducible rfl
          try simp only [Act.put, List.getElem_toArray, List.getElem_cons_succ, List.getElem_cons_zero, List.setIfInBounds_toArray, List.set_cons_zero, List.set_cons_succ]
          refine wpAnyH_ready (rs := [12]) (by kernel_rfl) (by simp) ?_
          refine AllReadyH.cons rfl (fun K hK => ?_) AllReadyH.nil
          have f2 := (unhide HF5).cell (i := 2) rfl
          have ff := (unhide HF5).frozen 2
          have HFN := hide ((unhide HF5).set 2 (.slice (some ⟨g1, 0, none⟩) (k + 1) c1) (by simp))
          have HKS := hide ((Kept.refl (fun b => b = gf) w5).setCell (p := ⟨gf, 2, none⟩) rfl (.slice (some ⟨g1, 0, none⟩) (k + 1) c1))
          have HRZ := hide ((unhide HRN).kept (unhide HKS) (fun g e hg _ e2 => by omega))
          have HZZ := hide ((unhide HR5).kept (unhide HKS) (fun e2 => by omega))
          have HWZ := hide ((unhide HW5).setCell (p := ⟨gf, 2, none⟩) (by show w.heap.size ≤ gf; omega) (.slice (some ⟨g1, 0, none⟩) (k + 1) c1))
          clear HF5 HR5 HW5 HRN HKS
          go_simp
          refine hK.out _ _ ((unhide HFN).cell (i := 0) rfl) (fun hHeld => ?_)
          clear hK K
          try simp only [Act.put, List.setIfInBounds_toArray, List.set_cons_zero, List.set_cons_succ]
          refine wpAnyH_done (by kernel_rfl) ?_ _
          go_wp2
          go_roundg (wn - (x + 1))
          case measure => omega
          case rel => exact ⟨x + 1, some ⟨g1, 0, none⟩, k + 1, c1, by omega, rfl, by go_num, unhide HK3, HFN, HRZ, HZZ, HWZ⟩

set_option maxRecDepth 10000 in
set_option maxHeartbeats 8000000 in
theorem specOneWay_any (wide high : Int) (w : World) :
    Calls Try.prog 41 #[.int .i64 wide, .int .i64 high] w fun e w' => ∃ a n cp, e = .returned (.tuple #[vFloor (oneZ wide high wide) (oneZ wide high high) (.slice a n cp), .bool (oneB wide high)]) ∧ OwnSl w.heap.size w' (.slice a n cp) (oneL wide high) ∧ Below w.heap.size w w' := by
  have nil : ∀ W a, OwnSl w.heap.size W (.slice a 0 0) [] := fun W a => ⟨a, 0, rfl, Nat.le_refl _, Nat.zero_le _, fun h => absurd rfl h⟩
  obtain ⟨RV, eRV⟩ : ∃ z, z = oneL wide high := ⟨_, rfl⟩
  obtain ⟨RB, eRB⟩ : ∃ z, z = oneB wide high := ⟨_, rfl⟩
  rw [← eRV, ← eRB]
  have HZ : Hid (∀ x, oneZ wide high x = bif RB then x else 0) := fun x => by rw [eRB]; rfl
  have HV : Hid (RV = bif RB then ringL wide.toNat high.toNat (wide.toNat * high.toNat) else []) := by show _ = _; rw [eRV, eRB]; rfl
  have HB : Hid (RB = (inB wide 2 10 && inB high 2 10)) := by show _ = _; rw [eRB]; rfl
  clear eRV eRB
  have hA := Below.alloc1 w (.cells #[.int .i64 0, .int .i64 0, .slice none 0 0] 26)
  have HR := hide (ownV_alloc w #[.int .i64 0, .int .i64 0, .slice none 0 0] 26)
  have HW := hide hA
  clear hA
  have Q1 := hide fun V => l1In_any wide 2 10 V
  have Q2 := hide fun V => l1In_any high 2 10 V
  unfold vFloor
  go_enter Try.func41, Try.ntmps41
  go_upto_region 1 with (fail)
  obtain ⟨gr, egr⟩ : ∃ z, z = w.heap.size := ⟨_, rfl⟩
  obtain ⟨W0, eW0⟩ : ∃ z, z = w.alloc (.cells #[.int .i64 0, .int .i64 0, .slice none 0 0] 26) := ⟨_, rfl⟩
  rw [← eW0] at HR HW ⊢
  rw [← egr] at HR ⊢
  have hgr : w.heap.size ≤ gr := by omega
  clear egr eW0
  cases h1 : inB wide 2 10 with
  | false =>
    have e2 : RB = false := by rw [unhide HB, h1]; rfl
    subst e2
    have e1 : RV = [] := unhide HV
    subst e1
    rw [h1] at Q1
    go_wp2_with fail
    refine (unhide Q1 _).mono ?_
    rintro e w9 ⟨rfl, h9⟩
    have h8 := h9.symm
    subst h8
    clear h9
    have r0 := (unhide HR).cell (i := 0) rfl
    have r1 := (unhide HR).cell (i := 1) rfl
    have r2 := (unhide HR).cell (i := 2) rfl
    have rf := (unhide HR).frozen
    have HN := hide ((((unhide HR).set 0 (.int .i64 0) (by simp)).set 1 (.int .i64 0) (by simp)).set 2 (.slice none 0 0) (by simp))
    have HWN := hide ((((unhide HW).setCell (p := ⟨gr, 0, none⟩) hgr (.int .i64 0)).setCell (p := ⟨gr, 1, none⟩) hgr (.int .i64 0)).setCell (p := ⟨gr, 2, none⟩) hgr (.slice none 0 0))
    go_wp2
    have k0 := (unhide HN).cell (i := 0) rfl
    have k1 := (unhide HN).cell (i := 1) rfl
    have k2 := (unhide HN).cell (i := 2) rfl
    refine bodyPost_ret (v := .tuple #[.agg #[.int .i64 0, .int .i64 0, .slice none 0 0], .bool false]) (by simp [results, Try.results41, go_sem, k0, k1, k2]) rfl ⟨none, 0, 0, by rw [unhide HZ, unhide HZ]; rfl, nil _ _, unhide HWN⟩
  | true =>
  rw [h1] at Q1
  cases h2 : inB high 2 10 with
  | false =>
    have e2 : RB = false := by rw [unhide HB, h1, h2]; rfl
    subst e2
    have e1 : RV = [] := unhide HV
    subst e1
    rw [h2] at Q2
    go_wp2_with fail
    refine (unhide Q1 _).mono ?_
    rintro e w9 ⟨rfl, h9⟩
    have h8 := h9.symm
    subst h8
    clear h9
    go_wp2_with fail
    refine (unhide Q2 _).mono ?_
    rintro e w9 ⟨rfl, h9⟩
    have h8 := h9.symm
    subst h8
    clear h9
    have r0 := (unhide HR).cell (i := 0) rfl
    have r1 := (unhide HR).cell (i := 1) rfl
    have r2 := (unhide HR).cell (i := 2) rfl
    have rf := (unhide HR).frozen
    have HN := hide ((((unhide HR).set 0 (.int .i64 0) (by simp)).set 1 (.int .i64 0) (by simp)).set 2 (.slice none 0 0) (by simp))
    have HWN := hide ((((unhide HW).setCell (p := ⟨gr, 0, none⟩) hgr (.int .i64 0)).setCell (p := ⟨gr, 1, none⟩) hgr (.int .i64 0)).setCell (p := ⟨gr, 2, none⟩) hgr (.slice none 0 0))
    go_wp2
    have k0 := (unhide HN).cell (i := 0) rfl
    have k1 := (unhide HN).cell (i := 1) rfl
    have k2 := (unhide HN).cell (i := 2) rfl
    refine bodyPost_ret (v := .tuple #[.agg #[.int .i64 0, .int .i64 0, .slice none 0 0], .bool false]) (by simp [results, Try.results41, go_sem, k0, k1, k2]) rfl ⟨none, 0, 0, by rw [unhide HZ, unhide HZ]; rfl, nil _ _, unhide HWN⟩
  | true =>
  have e2 : RB = true := by rw [unhide HB, h1, h2]; rfl
  subst e2
  rw [h2] at Q2
  obtain ⟨a1, a2⟩ := inB_true h1
  obtain ⟨a3, a4⟩ := inB_true h2
  obtain ⟨wn, rfl⟩ : ∃ n : Nat, wide = (n : Int) := ⟨wide.toNat, by omega⟩
  obtain ⟨hn, rfl⟩ : ∃ n : Nat, high = (n : Int) := ⟨high.toNat, by omega⟩
  have EV : Hid (RV = ringL wn hn (wn * hn)) := by have := unhide HV; rw [Int.toNat_natCast, Int.toNat_natCast] at this; exact this
  have hwn : wn ≤ 10 := by omega
  have hhn : hn ≤ 10 := by omega
  have hwh := mul_n10 hwn hhn
  have z1 : IntKind.i64.wrap ((wn : Int) - 1) = (wn : Int) - 1 := by rw [IntKind.wrap_i64]; omega
  have z2 : IntKind.i64.wrap ((hn : Int) - 1) = (hn : Int) - 1 := by rw [IntKind.wrap_i64]; omega
  clear HV HB h1 h2 nil
  go_wp2_with fail
  refine (unhide Q1 _).mono ?_
  rintro e w9 ⟨rfl, h9⟩
  have h8 := h9.symm
  subst h8
  clear h9
  go_wp2_with fail
  refine (unhide Q2 _).mono ?_
  rintro e w9 ⟨rfl, h9⟩
  have h8 := h9.symm
  subst h8
  clear h9 Q1 Q2
  go_upto_region 4 with (fail)
  obtain ⟨gf, egf⟩ : ∃ z, z = W0.heap.size := ⟨_, rfl⟩
  have hA := Below.alloc1 W0 (.cells #[.int .i64 (wn : Int), .int .i64 (hn : Int), .slice none 0 0] 26)
  have HF := hide (ownV_alloc W0 #[.int .i64 (wn : Int), .int .i64 (hn : Int), .slice none 0 0] 26)
  have HR1 := hide ((unhide HR).step hA)
  have HW1 := hide (Below.step (unhide HW) hA)
  have hgf : gr < gf := by rw [egf]; exact (unhide HR).lt
  obtain ⟨W1, eW1⟩ : ∃ z, z = W0.alloc (.cells #[.int .i64 (wn : Int), .int .i64 (hn : Int), .slice none 0 0] 26) := ⟨_, rfl⟩
  rw [← eW1] at HF HR1 HW1 ⊢
  rw [← egf] at HF ⊢
  clear hA egf eW1 HR HW
  have HRW := hide (rowB_nil (α := Int) 3 1 eI (gf + 1) W1)
  go_wp2
  go_loopg [7] hn (fun gg i wr => ∃ (y : Nat) (ao : Option Addr) (k cp : Nat), y ≤ hn ∧ gg = hn - y ∧ i = .int .i64 y ∧ k = y * wn ∧ Hid (OwnV wr gf [.int .i64 (wn : Int), .int .i64 (hn : Int), .slice ao k cp]) ∧ Hid (RowB 3 1 eI (gf + 1) wr ao k cp (ringL wn hn k)) ∧ Hid (OwnV wr gr [.int .i64 0, .int .i64 0, .slice none 0 0]) ∧ Hid (Below w.heap.size w wr))
  case atStart => exact ⟨0, none, 0, 0, Nat.zero_le _, rfl, rfl, by omega, HF, HRW, HR1, HW1⟩
  case round =>
    clear HF HRW HR1 HW1
    obtain ⟨y, ao, k, cp, hy, rfl, rfl, hk, HF, HRW, HR, HW⟩ := hrel
    by_cases hyn : y < hn
    case neg =>
      have hyi : ¬ (y : Int) < hn := by omega
      have hk2 : k = wn * hn := by rw [hk, show y = hn by omega, Nat.mul_comm]
      have f0 := (unhide HF).cell (i := 0) rfl
      have f1 := (unhide HF).cell (i := 1) rfl
      have f2 := (unhide HF).cell (i := 2) rfl
      have r0 := (unhide HR).cell (i := 0) rfl
      have r1 := (unhide HR).cell (i := 1) rfl
      have r2 := (unhide HR).cell (i := 2) rfl
      have rf := (unhide HR).frozen
      have HN := hide ((((unhide HR).set 0 (.int .i64 (wn : Int)) (by simp)).set 1 (.int .i64 (hn : Int)) (by simp)).set 2 (.slice ao k cp) (by simp))
      have HWN := hide ((((unhide HW).setCell (p := ⟨gr, 0, none⟩) hgr (.int .i64 (wn : Int))).setCell (p := ⟨gr, 1, none⟩) hgr (.int .i64 (hn : Int))).setCell (p := ⟨gr, 2, none⟩) hgr (.slice ao k cp))
      have HKS := hide ((((Kept.refl (fun b => b = gr) wr).setCell (p := ⟨gr, 0, none⟩) rfl (.int .i64 (wn : Int))).setCell (p := ⟨gr, 1, none⟩) rfl (.int .i64 (hn : Int))).setCell (p := ⟨gr, 2, none⟩) rfl (.slice ao k cp))
      have HRN := hide ((unhide HRW).kept (unhide HKS) (fun g _ hg _ e => by omega))
      have HK2 := hide hk2
      clear hk hk2 HRW HF HR HW HKS
      go_wp2
      have k0 := (unhide HN).cell (i := 0) rfl
      have k1 := (unhide HN).cell (i := 1) rfl
      have k2 := (unhide HN).cell (i := 2) rfl
      refine bodyPost_ret (v := .tuple #[.agg #[.int .i64 (wn : Int), .int .i64 (hn : Int), .slice ao k cp], .bool true]) (by simp [results, Try.results41, go_sem, k0, k1, k2]) rfl ⟨ao, k, cp, by rw [unhide HZ, unhide HZ]; rfl, ?_, unhide HWN⟩
      rw [unhide EV, ← unhide HK2]
      exact rowB_ownSl (Nat.le_of_lt (Nat.lt_succ_of_lt (Nat.lt_of_le_of_lt hgr hgf))) (unhide HRN)
    have hyi : (y : Int) < hn := by omega
    have hyw : y * wn + wn ≤ wn * hn := by rw [← Nat.succ_mul, Nat.mul_comm wn hn]; exact Nat.mul_le_mul_right _ hyn
    go_wp2
    go_loopg [8] wn (fun gg i wr => ∃ (x : Nat) (ao : Option Addr) (k cp : Nat), x ≤ wn ∧ gg = wn - x ∧ i = .int .i64 x ∧ k = y * wn + x ∧ Hid (OwnV wr gf [.int .i64 (wn : Int), .int .i64 (hn : Int), .slice ao k cp]) ∧ Hid (RowB 3 1 eI (gf + 1) wr ao k cp (ringL wn hn k)) ∧ Hid (OwnV wr gr [.int .i64 0, .int .i64 0, .slice none 0 0]) ∧ Hid (Below w.heap.size w wr))
    case atStart => exact ⟨0, ao, k, cp, Nat.zero_le _, rfl, rfl, by omega, HF, HRW, HR, HW⟩
    case round =>
      clear HF HRW HR HW
      obtain ⟨x, ao, k, cp, hx, rfl, rfl, hk', HF, HRW, HR, HW⟩ := hrel
      by_cases hxn : x < wn
      case neg =>
        have hxi : ¬ (x : Int) < wn := by omega
        have hk2 : k = (y + 1) * wn := by rw [hk', Nat.succ_mul]; omega
        clear hk'
        go_wp2
        go_roundg (hn - (y + 1))
        case measure => omega
        case rel => exact ⟨y + 1, ao, k, cp, by omega, rfl, by go_num, hk2, HF, HRW, HR, HW⟩
      have hxi : (x : Int) < wn := by omega
      have HSU := hide (ringL_succ (wd := wn) (hg := hn) (y := y) hxn)
      rw [← hk'] at HSU
      have hk1 : k ≤ 1000 := by omega
      have hk3 : k + 1 = y * wn + (x + 1) := by omega
      rw [← hk3] at HSU
      have HK3 := hide hk3
      have HK := hide hk'
      clear hk' hk3 hyw
      obtain ⟨rV, erV⟩ : ∃ r, r = ringV (x : Int) (y : Int) ((wn : Int) - 1) ((hn : Int) - 1) := ⟨_, rfl⟩
      rw [← erV] at HSU
      go_upto_block 4 with (fail)
      go_cut [9] (fun s9 wx => s9 = .int .i64 rV ∧ wx = wr)
      case first =>
        clear HSU HRW HF HR HW
        unfold ringV at erV
        have d1 : ((y : Int) == 0) = decide ((y : Int) = 0) := by rw [Bool.eq_iff_iff]; simp
        have d2 : ((x : Int) == (wn : Int) - 1) = decide ((x : Int) = (wn : Int) - 1) := by rw [Bool.eq_iff_iff]; simp
        have d3 : ((y : Int) == (hn : Int) - 1) = decide ((y : Int) = (hn : Int) - 1) := by rw [Bool.eq_iff_iff]; simp
        have d4 : ((x : Int) == 0) = decide ((x : Int) = 0) := by rw [Bool.eq_iff_iff]; simp
        generalize decide ((y : Int) = 0) = a1 at *
        generalize decide ((x : Int) = (wn : Int) - 1) = a3 at *
        generalize decide ((y : Int) = (hn : Int) - 1) = a5 at *
        generalize decide ((x : Int) = 0) = a7 at *
        obtain ⟨a2, d5⟩ : ∃ a, decide ((x : Int) < (wn : Int) - 1) = a := ⟨_, rfl⟩
        obtain ⟨a4, d6⟩ : ∃ a, decide ((y : Int) < (hn : Int) - 1) = a := ⟨_, rfl⟩
        obtain ⟨a6, d7⟩ : ∃ a, decide ((0 : Int) < (x : Int)) = a := ⟨_, rfl⟩
        rw [d5, d6, d7] at erV
        have d8 : decide (0 < x) = a6 := by rw [← d7, Bool.eq_iff_iff]; simp
        have ER := hide erV
        clear erV
        cases a1 with
        | false =>
          cases a3 with
          | false =>
            cases a5 with
            | false =>
              cases a7 with
              | true =>
                have e1 : rV = 8 := by rw [unhide ER]; rfl
                subst e1
                clear ER
                go_wp2
                go_meet
                exact ⟨rfl, rfl⟩
              | false =>
                have e1 : rV = 15 := by rw [unhide ER]; rfl
                subst e1
                clear ER
                go_wp2
                go_meet
                exact ⟨rfl, rfl⟩
            | true =>
              cases a6 with
              | true =>
                have e1 : rV = 4 := by rw [unhide ER]; rfl
                subst e1
                clear ER
                go_wp2
                go_meet
                exact ⟨rfl, rfl⟩
              | false =>
                cases a7 with
                | true =>
                  have e1 : rV = 8 := by rw [unhide ER]; rfl
                  subst e1
                  clear ER
                  go_wp2
                  go_meet
                  exact ⟨rfl, rfl⟩
                | false =>
                  have e1 : rV = 15 := by rw [unhide ER]; rfl
                  subst e1
                  clear ER
                  go_wp2
                  go_meet
                  exact ⟨rfl, rfl⟩
          | true =>
            cases a4 with
            | true =>
              have e1 : rV = 2 := by rw [unhide ER]; rfl
              subst e1
              clear ER
              go_wp2
              go_meet
              exact ⟨rfl, rfl⟩
            | false =>
              cases a5 with
              | false =>
                cases a7 with
                | true =>
                  have e1 : rV = 8 := by rw [unhide ER]; rfl
                  subst e1
                  clear ER
                  go_wp2
                  go_meet
                  exact ⟨rfl, rfl⟩
                | false =>
                  have e1 : rV = 15 := by rw [unhide ER]; rfl
                  subst e1
                  clear ER
                  go_wp2
                  go_meet
                  exact ⟨rfl, rfl⟩
              | true =>
                cases a6 with
                | true =>
                  have e1 : rV = 4 := by rw [unhide ER]; rfl
                  subst e1
                  clear ER
                  go_wp2
                  go_meet
                  exact ⟨rfl, rfl⟩
                | false =>
                  cases a7 with
                  | true =>
                    have e1 : rV = 8 := by rw [unhide ER]; rfl
                    subst e1
                    clear ER
                    go_wp2
                    go_meet
                    exact ⟨rfl, rfl⟩
                  | false =>
                    have e1 : rV = 15 := by rw [unhide ER]; rfl
                    subst e1
                    clear ER
                    go_wp2
                    go_meet
                    exact ⟨rfl, rfl⟩
        | true =>
          cases a2 with
          | true =>
            have e1 : rV = 1 := by rw [unhide ER]; rfl
            subst e1
            clear ER
            go_wp2
            go_meet
            exact ⟨rfl, rfl⟩
          | false =>
            cases a3 with
            | false =>
              cases a5 with
              | false =>
                cases a7 with
                | true =>
                  have e1 : rV = 8 := by rw [unhide ER]; rfl
                  subst e1
                  clear ER
                  go_wp2
                  go_meet
                  exact ⟨rfl, rfl⟩
                | false =>
                  have e1 : rV = 15 := by rw [unhide ER]; rfl
                  subst e1
                  clear ER
                  go_wp2
                  go_meet
                  exact ⟨rfl, rfl⟩
              | true =>
                cases a6 with
                | true =>
                  have e1 : rV = 4 := by rw [unhide ER]; rfl
                  subst e1
                  clear ER
                  go_wp2
                  go_meet
                  exact ⟨rfl, rfl⟩
                | false =>
                  cases a7 with
                  | true =>
                    have e1 : rV = 8 := by rw [unhide ER]; rfl
                    subst e1
                    clear ER
                    go_wp2
                    go_meet
                    exact ⟨rfl, rfl⟩
                  | false =>
                    have e1 : rV = 15 := by rw [unhide ER]; rfl
                    subst e1
                    clear ER
                    go_wp2
                    go_meet
                    exact ⟨rfl, rfl⟩
            | true =>
              cases a4 with
              | true =>
                have e1 : rV = 2 := by rw [unhide ER]; rfl
                subst e1
                clear ER
                go_wp2
                go_meet
                exact ⟨rfl, rfl⟩
              | false =>
                cases a5 with
                | false =>
                  cases a7 with
                  | true =>
                    have e1 : rV = 8 := by rw [unhide ER]; rfl
                    subst e1
                    clear ER
                    go_wp2
                    go_meet
                    exact ⟨rfl, rfl⟩
                  | false =>
                    have e1 : rV = 15 := by rw [unhide ER]; rfl
                    subst e1
                    clear ER
                    go_wp2
                    go_meet
                    exact ⟨rfl, rfl⟩
                | true =>
                  cases a6 with
                  | true =>
                    have e1 : rV = 4 := by rw [unhide ER]; rfl
                    subst e1
                    clear ER
                    go_wp2
                    go_meet
                    exact ⟨rfl, rfl⟩
                  | false =>
                    cases a7 with
                    | true =>
                      have e1 : rV = 8 := by rw [unhide ER]; rfl
                      subst e1
                      clear ER
                      go_wp2
                      go_meet
                      exact ⟨rfl, rfl⟩
                    | false =>
                      have e1 : rV = 15 := by rw [unhide ER]; rfl
                      subst e1
                      clear ER
                      go_wp2
                      go_meet
                      exact ⟨rfl, rfl⟩
      case rest =>
        clear erV
        obtain ⟨rfl, hw9⟩ := hcut
        subst hw9
        have hA := Below.alloc1 wc (.cells #[.int .i64 rV] 3)
        have HRA := hide ((unhide HRW).below hA)
        have HOA := hide (ownV_alloc wc #[.int .i64 rV] 3)
        have HFA := hide ((unhide HF).step hA)
        have HZA := hide ((unhide HR).step hA)
        have HWA := hide (Below.step (unhide HW) hA)
        have f2 := (unhide HF).cell (i := 2) rfl
        have hsa : gf < wc.heap.size := (unhide HF).lt
        clear hA HRW HF HR HW
        obtain ⟨wa, ewa⟩ : ∃ z, z = wc.alloc (.cells #[.int .i64 rV] 3) := ⟨_, rfl⟩
        obtain ⟨ga, ega⟩ : ∃ z, z = wc.heap.size := ⟨_, rfl⟩
        rw [← ewa, ← ega] at HOA
        rw [← ewa] at HRA HFA HZA HWA
        have hsb : gf + 1 ≤ wa.heap.size := (unhide HFA).lt
        go_wp2_with (at_builtin; rw [← ewa, ← ega]; refine wpList_appRow tyI _ rfl _ _ rfl (gf + 1) ao k cp (ringL wn hn k) rfl (unhide HRA) hsb (by omega) ga rV 1 rfl (unhide HOA) ?_; intro g1 c1 w5 hr1 hk5 hg1 hor; have HR1 := hide hr1; have HK5 := hide hk5; have hT : ∀ b, ao = some ⟨b, 0, none⟩ → gf + 1 ≤ b := (fun b e => (by rcases (unhide HRA).parts (by omega) with ⟨e2, _⟩ | ⟨g, e2, hg, _⟩; (rw [e2] at e; cases e); (rw [e2] at e; simp only [Option.some.injEq, Addr.mk.injEq, and_true] at e; omega))); have HF5 := hide ((unhide HFA).kept hk5 (fun e => by have := hT _ e; omega)); have HR5 := hide ((unhide HZA).kept hk5 (fun e => by have := hT _ e; omega)); have HW5 := hide ((unhide HWA).trans (hk5.below (unhide HWA).size (fun b e => by have := hT _ e; omega))); clear hr1 hk5 hT HK5 hor hg1; have f5 := (unhide HF5).cell (i := 2) rfl; have ff := (unhide HF5).frozen 2)
        have HRN0 := unhide HR1
        rw [unhide HSU] at HRN0
        have HKS := (Kept.refl (fun b => b = gf) w5).setCell (p := ⟨gf, 2, none⟩) rfl (.slice (some ⟨g1, 0, none⟩) (k + 1) c1)
        have HFN := hide ((unhide HF5).set 2 (.slice (some ⟨g1, 0, none⟩) (k + 1) c1) (by simp))
        have HRN := hide (HRN0.kept HKS (fun g e hg _ e2 => by omega))
        have HRZ := hide ((unhide HR5).kept HKS (fun e2 => by omega))
        have HWZ := hide ((unhide HW5).setCell (p := ⟨gf, 2, none⟩) (by show w.heap.size ≤ gf; omega) (.slice (some ⟨g1, 0, none⟩) (k + 1) c1))
        go_roundg (wn - (x + 1))
        case measure => omega
        case rel => exact ⟨x + 1, some ⟨g1, 0, none⟩, k + 1, c1, by omega, rfl, by go_num, unhide HK3, HFN, HRN, HRZ, HWZ⟩


end Go.Proofs.Ytnapggchejdcgaa
