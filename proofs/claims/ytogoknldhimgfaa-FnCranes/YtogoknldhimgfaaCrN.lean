/- What is drawn for FnCranes: cranes that stand right, a gap, moves. No statement about the program stands here. -/
import Derived.Test.YtogoknldhimgfaaCrK
import Derived.Test.YtogoknldhimgfaaDrE
import Derived.Test.YtogoknldhimgfaaMuCr
import Derived.Test.YtogoknldhimgfaaRMove
import Derived.Deep.DeepCutAuto
import Derived.Deep.Cut
import Derived.BigRegion
namespace Go.Proofs.Ytogoknldhimgfaa
open Go.RowKit

theorem tyMove : RecTy 36 42 2 eMove := recTy_mk Try.underlying36 Try.infoMove rfl (by decide) (by decide) (fun x j hj => by
  have : j = 0 ∨ j = 1 := by omega
  rcases this with e | e <;> subst e <;> rfl)
theorem rowB_at {α : Type} [Inhabited α] {T : TypeId} {n : Nat} {enc : α → Nat → Value} {B : Nat} {w : World} {ao : Option Addr} {m cap : Nat} {L : List α} (h : RowB T n enc B w ao m cap L) (hn : 0 < n) : ∀ b, ao = some ⟨b, 0, none⟩ → B ≤ b := fun b e => by
  rcases h.parts hn with ⟨e2, _⟩ | ⟨g, e2, hg, _⟩
  · rw [e] at e2; cases e2
  · rw [e] at e2; simp only [Option.some.injEq, Addr.mk.injEq, and_true] at e2; omega
/-- Of what was there only the cursor has turned. -/
abbrev KC (cb : Nat) (w W : World) : Prop := Kept (fun b => b = cb) w W
theorem kept_ownC {P : Nat → Prop} {cb : Nat} {w W V : World} (h : KC cb w W) (k : Kept P W V) (hp : ∀ b, P b → w.heap.size ≤ b) : KC cb w V :=
  ⟨k.os.trans h.os, k.tape.trans h.tape, k.output.trans h.output, Nat.le_trans h.size k.size, fun i hi ht => (k.block i (Nat.lt_of_lt_of_le hi h.size) (fun hb => by have := hp i hb; omega)).trans (h.block i hi ht)⟩

set_option maxRecDepth 100000 in
set_option maxHeartbeats 8000000 in
theorem l17DrawCranes_any (cb n : Nat) (v : Value) (w : World) (h : Cur w cb v n) (hn : n ≤ 1048576) :
    Calls Try.prog 64 #[.pointer (some ⟨cb, 0, none⟩)] w fun e w' => ∃ ao m c L gap, e = .returned (.tuple #[.slice ao m c, .int .i64 gap]) ∧ RowB 45 3 eCrane w.heap.size w' ao m c L ∧ CrP L gap ∧ Cur w' cb v n ∧ KC cb w w' := by
  have QB := hide fun W (hW : Cur W cb v n) k h0 h1 => l1BelowV_any cb n v k W hW hn h0 h1
  have hcb := h.lt
  have HC := hide h
  clear h
  go_enter Try.func64, Try.ntmps64
  go_wp2_with fail
  refine (unhide QB _ (unhide HC) 6 (by omega) (by omega)).mono ?_
  rintro e W1 ⟨y, rfl, hy0, hy1, hC, hK⟩
  replace HC := hide hC
  have HK := hide hK
  clear hC hK
  obtain ⟨gap, eg⟩ : ∃ g, g = 1 + y := ⟨_, rfl⟩
  have qg : IntKind.i64.wrap (1 + y) = gap := by rw [← eg, IntKind.wrap_i64]; omega
  have qg2 : 1 + y = gap := eg.symm
  have hgp : 1 ≤ gap ∧ gap ≤ 6 := by omega
  clear eg
  have hA := Below.alloc1 W1 (.cells #[] 45)
  have HR := hide (rowB_new 45 3 eCrane W1 w.heap.size (unhide HK).size)
  obtain ⟨V1, eV⟩ : ∃ V, V = W1.alloc (.cells #[] 45) := ⟨_, rfl⟩
  rw [← eV] at HR hA
  obtain ⟨ro, ero⟩ : ∃ r : Option Addr, r = some ⟨W1.heap.size, 0, none⟩ := ⟨_, rfl⟩
  rw [← ero] at HR
  replace HC := hide ((unhide HC).below hA)
  replace HK := hide ((unhide HK).trans (kept_of_below hA))
  go_wp2_with fail
  rw [← eV, ← ero]
  clear eV ero hA
  refine (unhide QB _ (unhide HC) 20 (by omega) (by omega)).mono ?_
  rintro e W2 ⟨A, rfl, hA0, hA1, hC, hK⟩
  replace HC := hide hC
  replace HR := hide ((unhide HR).kept hK (fun g _ hg _ e => by have e : g = cb := e; omega))
  replace HK := hide ((unhide HK).trans hK)
  clear hC hK
  go_wp2_with fail
  refine (unhide QB _ (unhide HC) 5 (by omega) (by omega)).mono ?_
  rintro e W3 ⟨x, rfl, hx0, hx1, hC, hK⟩
  replace HC := hide hC
  replace HR := hide ((unhide HR).kept hK (fun g _ hg _ e => by have e : g = cb := e; omega))
  replace HK := hide ((unhide HK).trans hK)
  clear hC hK
  obtain ⟨N, eN⟩ : ∃ N : Nat, (N : Int) = 1 + x := ⟨(1 + x).toNat, by omega⟩
  have qN : IntKind.i64.wrap (1 + x) = (N : Int) := by rw [eN, IntKind.wrap_i64]; omega
  have qN2 : 1 + x = (N : Int) := eN.symm
  have hN : 1 ≤ N ∧ N ≤ 5 := by omega
  clear eN
  have HD : Hid (CrD [] gap A) := ⟨by simp, hgp, fun k hk => by simp at hk, fun h => by simp at h, ⟨hA0, by simp; omega⟩⟩
  generalize hw9 : W3 = w9 at *
  clear hw9
  go_wp2
  go_loopg [5, 6, 7] N (fun g ov av iv wr => ∃ (i m c : Nat) (ro : Option Addr) (L : List CraneT) (A : Int), i ≤ N ∧ g = i ∧ iv = .int .i64 (i : Int) ∧ av = .int .i64 A ∧ ov = .slice ro m c ∧ m + i = N ∧ Hid (CrD L gap A) ∧ Hid (RowB 45 3 eCrane w.heap.size wr ro m c L) ∧ Hid (Cur wr cb v n) ∧ Hid (KC cb w wr))
  case atStart => exact ⟨N, 0, 0, ro, [], A, Nat.le_refl _, rfl, rfl, rfl, rfl, by omega, HD, HR, HC, HK⟩
  case round =>
    clear HD HR HC HK qg qN qg2 qN2
    clear hA0 hA1
    obtain ⟨i, m, c, ro, L, A, hi, hgi, rfl, rfl, rfl, hmi, HD, HR, HC, HK⟩ := hrel
    have HGI := hide hgi
    clear hgi
    have hAb := (unhide HD).bd
    have hlm := (unhide HR).len (by decide)
    by_cases hi0 : 0 < i
    · have hii : (0 : Int) < (i : Int) := by omega
      have hA2 : 0 ≤ A ∧ A ≤ 200 := by omega
      have HLM := hide hlm
      clear hAb hlm
      go_wp2_with fail
      refine (unhide QB _ (unhide HC) 30 (by omega) (by omega)).mono ?_
      rintro e U1 ⟨y1, rfl, hy10, hy11, hC, hK⟩
      replace HC := hide hC
      replace HR := hide ((unhide HR).kept hK (fun g _ hg _ e => by have e : g = cb := e; omega))
      replace HK := hide ((unhide HK).trans hK)
      clear hC hK
      obtain ⟨lo, elo⟩ : ∃ z, z = A - y1 := ⟨_, rfl⟩
      have q1 : IntKind.i64.wrap (A - y1) = lo := by rw [← elo, IntKind.wrap_i64]; omega
      have q1b : A - y1 = lo := elo.symm
      have hlA : lo ≤ A := by omega
      clear elo
      go_wp2_with fail
      refine (unhide QB _ (unhide HC) 30 (by omega) (by omega)).mono ?_
      rintro e U2 ⟨y2, rfl, hy20, hy21, hC, hK⟩
      replace HC := hide hC
      replace HR := hide ((unhide HR).kept hK (fun g _ hg _ e => by have e : g = cb := e; omega))
      replace HK := hide ((unhide HK).trans hK)
      clear hC hK
      obtain ⟨hg, ehg⟩ : ∃ z, z = A + y2 := ⟨_, rfl⟩
      have q2 : IntKind.i64.wrap (A + y2) = hg := by rw [← ehg, IntKind.wrap_i64]; omega
      have q2b : A + y2 = hg := ehg.symm
      have hhg : A ≤ hg ∧ hg ≤ A + 30 := by omega
      clear ehg
      obtain ⟨gx, egx⟩ : ∃ g, g = U2.heap.size := ⟨_, rfl⟩
      by_cases hlo : lo < 0
      case pos =>
        have dl : decide (lo < 0) = true := decide_eq_true hlo
        obtain ⟨V2, eV2⟩ : ∃ V, V = U2.alloc (.cells #[.int .i64 A, .int .i64 0, .int .i64 hg] 45) := ⟨_, rfl⟩
        have hA3 : Below U2.heap.size U2 V2 := by rw [eV2]; exact Below.alloc1 _ _
        have HX : Hid (OwnV V2 gx [.int .i64 A, .int .i64 0, .int .i64 hg]) := by show OwnV _ _ _; rw [eV2, egx]; exact ownV_alloc _ _ _
        replace HR := hide ((unhide HR).below hA3)
        replace HC := hide ((unhide HC).below hA3)
        replace HK := hide ((unhide HK).trans (kept_of_below hA3))
        go_upto_region 10 with (fail)
        rw [← eV2, ← egx]
        obtain ⟨l2, el2⟩ : ∃ z : Int, z = 0 := ⟨_, rfl⟩
        rw [← el2] at HX
        have hl0 : 0 ≤ l2 := by omega
        have hl1 : l2 ≤ A := by omega
        clear el2 eV2 hA3 egx dl q1 q2 q1b q2b
        have x0 := (unhide HX).cell (i := 0) rfl
        have x1 := (unhide HX).cell (i := 1) rfl
        have x2 := (unhide HX).cell (i := 2) rfl
        have hA3 := Below.alloc1 V2 (.cells #[.int .i64 A, .int .i64 l2, .int .i64 hg] 45)
        have HG := hide (ownV_alloc V2 #[.int .i64 A, .int .i64 l2, .int .i64 hg] 45)
        replace HR := hide ((unhide HR).below hA3)
        replace HC := hide ((unhide HC).below hA3)
        replace HK := hide ((unhide HK).trans (kept_of_below hA3))
        have hws := (unhide HK).size
        clear hA3 HX
        go_upto_region 11 with (at_builtin; go_must (refine wpList_appRow tyCrane _ rfl _ _ rfl w.heap.size ro m c L rfl (unhide HR) hws (by omega) V2.heap.size (A, l2, hg) 1 rfl (unhide HG) ?_); intro g' cap' w6 hL hK6 hBg hat; have HR2 := hide hL; have HKK := hide hK6; clear hL hK6 hat)
        have hbk := rowB_at (unhide HR) (by decide)
        have HC2 := hide ((unhide HC).kept (unhide HKK) (fun b hb => by have := hbk b hb; omega))
        have HK2 := hide (kept_ownC (unhide HK) (unhide HKK) hbk)
        clear HKK hbk HR HC HK HG x0 x1 x2 hws
        go_wp2_with fail
        refine (unhide QB _ (unhide HC2) 12 (by omega) (by omega)).mono ?_
        rintro e U7 ⟨z, rfl, hz0, hz1, hC, hK⟩
        have HC3 := hide hC
        have HR3 := hide ((unhide HR2).kept hK (fun g _ hg _ e => by have e : g = cb := e; omega))
        have HK3 := hide ((unhide HK2).trans hK)
        clear hC hK HR2 HC2 HK2
        have HD2 := hide ((unhide HD).next (z := z) (lo := l2) (hi := hg) (by have := unhide HLM; omega) ⟨hz0, hz1⟩ ⟨hl0, hl1⟩ hhg)
        obtain ⟨A1, eA1⟩ : ∃ q, q = A + gap := ⟨_, rfl⟩
        have q3 : IntKind.i64.wrap (A + gap) = A1 := by rw [← eA1, IntKind.wrap_i64]; omega
        have q4 : IntKind.i64.wrap (A1 + z) = A1 + z := by rw [IntKind.wrap_i64]; omega
        rw [← eA1] at HD2
        have q3b : A + gap = A1 := eA1.symm
        clear eA1
        obtain ⟨j, rfl⟩ : ∃ j, i = j + 1 := ⟨i - 1, by omega⟩
        have q5 : IntKind.i64.wrap (((j + 1 : Nat) : Int) - 1) = (j : Int) := by rw [IntKind.wrap_i64]; omega
        have q6 : ((j + 1 : Nat) : Int) - 1 = (j : Int) := by omega
        go_wp2
        go_roundg j
        case measure => have := unhide HGI; omega
        case rel => exact ⟨j, m + 1, cap', _, _, _, by omega, rfl, by go_num, rfl, rfl, by omega, HD2, HR3, HC3, HK3⟩
      case neg =>
        have dl : decide (lo < 0) = false := decide_eq_false hlo
        obtain ⟨V2, eV2⟩ : ∃ V, V = U2.alloc (.cells #[.int .i64 A, .int .i64 lo, .int .i64 hg] 45) := ⟨_, rfl⟩
        have hA3 : Below U2.heap.size U2 V2 := by rw [eV2]; exact Below.alloc1 _ _
        have HX : Hid (OwnV V2 gx [.int .i64 A, .int .i64 lo, .int .i64 hg]) := by show OwnV _ _ _; rw [eV2, egx]; exact ownV_alloc _ _ _
        replace HR := hide ((unhide HR).below hA3)
        replace HC := hide ((unhide HC).below hA3)
        replace HK := hide ((unhide HK).trans (kept_of_below hA3))
        go_upto_region 10 with (fail)
        rw [← eV2, ← egx]
        obtain ⟨l2, el2⟩ : ∃ z : Int, z = lo := ⟨_, rfl⟩
        rw [← el2] at HX
        have hl0 : 0 ≤ l2 := by omega
        have hl1 : l2 ≤ A := by omega
        clear el2 eV2 hA3 egx dl q1 q2 q1b q2b
        have x0 := (unhide HX).cell (i := 0) rfl
        have x1 := (unhide HX).cell (i := 1) rfl
        have x2 := (unhide HX).cell (i := 2) rfl
        have hA3 := Below.alloc1 V2 (.cells #[.int .i64 A, .int .i64 l2, .int .i64 hg] 45)
        have HG := hide (ownV_alloc V2 #[.int .i64 A, .int .i64 l2, .int .i64 hg] 45)
        replace HR := hide ((unhide HR).below hA3)
        replace HC := hide ((unhide HC).below hA3)
        replace HK := hide ((unhide HK).trans (kept_of_below hA3))
        have hws := (unhide HK).size
        clear hA3 HX
        go_upto_region 11 with (at_builtin; go_must (refine wpList_appRow tyCrane _ rfl _ _ rfl w.heap.size ro m c L rfl (unhide HR) hws (by omega) V2.heap.size (A, l2, hg) 1 rfl (unhide HG) ?_); intro g' cap' w6 hL hK6 hBg hat; have HR2 := hide hL; have HKK := hide hK6; clear hL hK6 hat)
        have hbk := rowB_at (unhide HR) (by decide)
        have HC2 := hide ((unhide HC).kept (unhide HKK) (fun b hb => by have := hbk b hb; omega))
        have HK2 := hide (kept_ownC (unhide HK) (unhide HKK) hbk)
        clear HKK hbk HR HC HK HG x0 x1 x2 hws
        go_wp2_with fail
        refine (unhide QB _ (unhide HC2) 12 (by omega) (by omega)).mono ?_
        rintro e U7 ⟨z, rfl, hz0, hz1, hC, hK⟩
        have HC3 := hide hC
        have HR3 := hide ((unhide HR2).kept hK (fun g _ hg _ e => by have e : g = cb := e; omega))
        have HK3 := hide ((unhide HK2).trans hK)
        clear hC hK HR2 HC2 HK2
        have HD2 := hide ((unhide HD).next (z := z) (lo := l2) (hi := hg) (by have := unhide HLM; omega) ⟨hz0, hz1⟩ ⟨hl0, hl1⟩ hhg)
        obtain ⟨A1, eA1⟩ : ∃ q, q = A + gap := ⟨_, rfl⟩
        have q3 : IntKind.i64.wrap (A + gap) = A1 := by rw [← eA1, IntKind.wrap_i64]; omega
        have q4 : IntKind.i64.wrap (A1 + z) = A1 + z := by rw [IntKind.wrap_i64]; omega
        rw [← eA1] at HD2
        have q3b : A + gap = A1 := eA1.symm
        clear eA1
        obtain ⟨j, rfl⟩ : ∃ j, i = j + 1 := ⟨i - 1, by omega⟩
        have q5 : IntKind.i64.wrap (((j + 1 : Nat) : Int) - 1) = (j : Int) := by rw [IntKind.wrap_i64]; omega
        have q6 : ((j + 1 : Nat) : Int) - 1 = (j : Int) := by omega
        go_wp2
        go_roundg j
        case measure => have := unhide HGI; omega
        case rel => exact ⟨j, m + 1, cap', _, _, _, by omega, rfl, by go_num, rfl, rfl, by omega, HD2, HR3, HC3, HK3⟩
    · obtain rfl : i = 0 := by omega
      have HP : Hid (CrP L gap) := (unhide HD).done (by omega)
      go_wp2
      refine bodyPost_ret (v := .tuple #[.slice ro m c, .int .i64 gap]) (by simp [results, Try.results64, go_sem]) rfl ⟨_, _, _, L, gap, rfl, unhide HR, unhide HP, unhide HC, unhide HK⟩

set_option maxRecDepth 100000 in
set_option maxHeartbeats 4000000 in
theorem l17DrawMove_any (cb n : Nat) (v : Value) (w : World) (h : Cur w cb v n) (hn : n ≤ 1048576) :
    Calls Try.prog 66 #[.pointer (some ⟨cb, 0, none⟩)] w fun e w' => ∃ a t, e = .returned (vMove a t) ∧ Cur w' cb v n ∧ KC cb w w' := by
  have QB := hide fun W (hW : Cur W cb v n) k h0 h1 => l1BelowV_any cb n v k W hW hn h0 h1
  have hcb := h.lt
  have hA := Below.alloc1 w (.cells #[.int .i64 0, .int .i64 0] 42)
  have HX := hide (ownV_alloc w #[.int .i64 0, .int .i64 0] 42)
  obtain ⟨V, eV⟩ : ∃ V, V = w.alloc (.cells #[.int .i64 0, .int .i64 0] 42) := ⟨_, rfl⟩
  rw [← eV] at hA HX
  have HC := hide (h.below hA)
  have HK := hide (kept_of_below (T := fun b => b = cb) hA)
  obtain ⟨gx, egx⟩ : ∃ g, g = w.heap.size := ⟨_, rfl⟩
  rw [← egx] at HX
  have hgx : cb < gx := by omega
  have hgw0 : w.heap.size ≤ gx := by omega
  clear h hA
  go_enter Try.func66, Try.ntmps66
  go_wp2_with fail
  rw [← eV, ← egx]
  clear eV egx
  refine (unhide QB _ (unhide HC) 5 (by omega) (by omega)).mono ?_
  rintro e W1 ⟨a, rfl, ha0, ha1, hC, hK⟩
  replace HC := hide hC
  replace HK := hide ((unhide HK).trans hK)
  replace HX := hide ((unhide HX).kept hK (fun e => by have e : gx = cb := e; omega))
  clear hC hK
  go_wp2_with fail
  refine (unhide QB _ (unhide HC) 70 (by omega) (by omega)).mono ?_
  rintro e W2 ⟨t, rfl, ht0, ht1, hC, hK⟩
  replace HC := hide hC
  replace HK := hide ((unhide HK).trans hK)
  replace HX := hide ((unhide HX).kept hK (fun e => by have e : gx = cb := e; omega))
  clear hC hK QB
  have c0 := (unhide HX).cell (i := 0) rfl
  have c1 := (unhide HX).cell (i := 1) rfl
  have f0 := (unhide HX).frozen 0
  have f1 := (unhide HX).frozen 1
  have hgw : w.heap.size ≤ gx := hgw0
  obtain ⟨W4, eW4⟩ : ∃ V, V = (W2.setCell ⟨gx, 0, none⟩ (.int .i64 a)).setCell ⟨gx, 1, none⟩ (.int .i64 t) := ⟨_, rfl⟩
  have HX4 : Hid (OwnV W4 gx [.int .i64 a, .int .i64 t]) := by show OwnV _ _ _; rw [eW4]; exact ((unhide HX).set 0 _ (by simp)).set 1 _ (by simp)
  have hkp : Kept (fun b => b = gx) W2 W4 := by rw [eW4]; exact Kept.setCell (T := fun b => b = gx) (Kept.setCell (T := fun b => b = gx) (Kept.refl _ W2) (p := ⟨gx, 0, none⟩) rfl _) (p := ⟨gx, 1, none⟩) rfl _
  have HC4 := hide ((unhide HC).kept hkp (fun b hb => by have hb : b = gx := hb; omega))
  have HK4 := hide (kept_ownC (unhide HK) hkp (fun b hb => by have hb : b = gx := hb; omega))
  clear hkp
  go_wp2
  rw [← eW4]
  have k0 := (unhide HX4).cell (i := 0) rfl
  have k1 := (unhide HX4).cell (i := 1) rfl
  refine bodyPost_ret (v := vMove a t) (by simp [results, Try.results66, go_sem, vMove, k0, k1]) rfl ⟨a, t, rfl, unhide HC4, unhide HK4⟩

set_option maxRecDepth 100000 in
set_option maxHeartbeats 8000000 in
theorem drawRail_any (v : Value) (n : Nat) (w : World) (h : BytesIn w.heap.size w v n) (hn : n ≤ 1048576) :
    Calls Try.prog 21 #[v] w fun e w' => ∃ ao m c L gap bo k d M, e = .returned (.tuple #[.slice ao m c, .int .i64 gap, .slice bo k d]) ∧ RCrane w' (.slice ao m c) L ∧ CrP L gap ∧ RMove w' (.slice bo k d) M ∧ M.length ≤ 20 ∧ Below w.heap.size w w' := by
  have HB := hide h
  have QB0 := hide fun cb W (hW : Cur W cb v n) k h0 h1 => l1BelowV_any cb n v k W hW hn h0 h1
  have QC0 := hide fun cb W (hW : Cur W cb v n) => l17DrawCranes_any cb n v W hW hn
  have QM0 := hide fun cb W (hW : Cur W cb v n) => l17DrawMove_any cb n v W hW hn
  clear h
  go_enter Try.func21, Try.ntmps21
  go_wp2_with fail
  refine (l1New_any v n w (unhide HB) hn).mono ?_
  rintro e W0 ⟨rfl, hC0, hB0, hs0⟩
  have HC := hide hC0
  have HW := hide hB0
  clear hC0 hB0 HB
  obtain ⟨cb, ecb⟩ : ∃ cb, cb = w.heap.size := ⟨_, rfl⟩
  have hcw : w.heap.size ≤ cb := by omega
  rw [← ecb] at HC ⊢
  have hcb0 : cb < W0.heap.size := by omega
  clear ecb hs0
  go_wp2_with fail
  refine (unhide QC0 cb _ (unhide HC)).mono ?_
  rintro e W1 ⟨ao, m, c, L, gap, rfl, hR, hP, hC, hK⟩
  have hwb := (unhide HW).size
  replace HW := hide ((unhide HW).trans (hK.below hwb fun b e => by have e : b = cb := e; omega))
  obtain ⟨B1, eB1⟩ : ∃ b, b = W0.heap.size := ⟨_, rfl⟩
  rw [← eB1] at hR hcb0
  have HR := hide hR
  have HP := hide hP
  replace HC := hide hC
  obtain ⟨U1, eU1⟩ : ∃ b, b = W1.heap.size := ⟨_, rfl⟩
  have HRT : Hid (∀ b, ao = some ⟨b, 0, none⟩ → b < U1) := fun b e => by
    rcases hR.parts (by decide) with ⟨e2, _⟩ | ⟨g, e2, _, hg2, _⟩
    · rw [e] at e2; cases e2
    · rw [e] at e2; simp only [Option.some.injEq, Addr.mk.injEq, and_true] at e2; omega
  have hU1 : U1 ≤ W1.heap.size := by omega
  have hcU : cb < U1 := by have := hK.size; omega
  clear hR hP hC hK eB1 eU1 hwb
  have hA := Below.alloc1 W1 (.cells #[] 42)
  have HM := hide (rowB_new 42 2 eMove W1 U1 hU1)
  obtain ⟨V1, eV⟩ : ∃ V, V = W1.alloc (.cells #[] 42) := ⟨_, rfl⟩
  rw [← eV] at HM hA
  obtain ⟨bo, ebo⟩ : ∃ r : Option Addr, r = some ⟨W1.heap.size, 0, none⟩ := ⟨_, rfl⟩
  rw [← ebo] at HM
  replace HC := hide ((unhide HC).below hA)
  replace HW := hide (Below.step (unhide HW) hA)
  replace HR := hide ((unhide HR).below hA)
  have hV1 := hA.size
  go_wp2_with fail
  rw [← eV, ← ebo]
  clear eV ebo hA
  refine (unhide QB0 cb _ (unhide HC) 20 (by omega) (by omega)).mono ?_
  rintro e W2 ⟨x, rfl, hx0, hx1, hC, hK⟩
  replace HC := hide hC
  have hwb := (unhide HW).size
  replace HW := hide ((unhide HW).trans (hK.below hwb fun b e => by have e : b = cb := e; omega))
  replace HR := hide ((unhide HR).kept hK (fun g _ hg _ e => by have e : g = cb := e; omega))
  replace HM := hide ((unhide HM).kept hK (fun g _ hg _ e => by have e : g = cb := e; omega))
  have hU2 : U1 ≤ W2.heap.size := by have := hK.size; omega
  clear hC hK hwb hU1 hV1
  obtain ⟨N, rfl⟩ : ∃ N : Nat, x = (N : Int) := ⟨x.toNat, by omega⟩
  generalize hw9 : W2 = w9 at *
  clear hw9
  go_wp2
  go_loopg [8, 9] N (fun g ov iv wr => ∃ (i k d : Nat) (bo : Option Addr) (M : List MoveT), i ≤ N ∧ g = i ∧ iv = .int .i64 (i : Int) ∧ ov = .slice bo k d ∧ k + i = N ∧ U1 ≤ wr.heap.size ∧ Hid (RowB 42 2 eMove U1 wr bo k d M) ∧ Hid (RowB 45 3 eCrane B1 wr ao m c L) ∧ Hid (Cur wr cb v n) ∧ Hid (Below w.heap.size w wr))
  case atStart => exact ⟨N, 0, 0, bo, [], Nat.le_refl _, rfl, rfl, rfl, by omega, hU2, HM, HR, HC, HW⟩
  case round =>
    clear HM HR HC HW hU2
    obtain ⟨i, k, d, bo, M, hi, hgi, rfl, rfl, hki, hU2, HM, HR, HC, HW⟩ := hrel
    have HGI := hide hgi
    clear hgi
    by_cases hi0 : 0 < i
    · have hii : (0 : Int) < (i : Int) := by omega
      go_wp2_with fail
      refine (unhide QM0 cb _ (unhide HC)).mono ?_
      rintro e U3 ⟨a, t, rfl, hC, hK⟩
      replace HC := hide hC
      have hwb := (unhide HW).size
      replace HW := hide ((unhide HW).trans (hK.below hwb fun b e => by have e : b = cb := e; omega))
      replace HR := hide ((unhide HR).kept hK (fun g _ hg _ e => by have e : g = cb := e; omega))
      replace HM := hide ((unhide HM).kept hK (fun g _ hg _ e => by have e : g = cb := e; omega))
      have hU3 : U1 ≤ U3.heap.size := by have := hK.size; omega
      clear hC hK hwb
      have hA3 := Below.alloc1 U3 (.cells #[.int .i64 a, .int .i64 t] 42)
      have HG := hide (ownV_alloc U3 #[.int .i64 a, .int .i64 t] 42)
      replace HR := hide ((unhide HR).below hA3)
      replace HM := hide ((unhide HM).below hA3)
      replace HC := hide ((unhide HC).below hA3)
      replace HW := hide (Below.step (unhide HW) hA3)
      have hU4 : U1 ≤ (U3.alloc (.cells #[.int .i64 a, .int .i64 t] 42)).heap.size := Nat.le_trans hU3 hA3.size
      clear hA3
      obtain ⟨j, rfl⟩ : ∃ j, i = j + 1 := ⟨i - 1, by omega⟩
      have q5 : IntKind.i64.wrap (((j + 1 : Nat) : Int) - 1) = (j : Int) := by rw [IntKind.wrap_i64]; omega
      have q6 : ((j + 1 : Nat) : Int) - 1 = (j : Int) := by omega
      unfold vMove
      go_wp2_with (at_builtin; go_must (refine wpList_appRow tyMove _ rfl _ _ rfl U1 bo k d M rfl (unhide HM) hU4 (by omega) U3.heap.size (a, t) 1 rfl (unhide HG) ?_); intro g' cap' w6 hL hK6 hBg hat; have HM2 := hide hL; have HKK := hide hK6; clear hL hK6 hat)
      go_roundg j
      case measure => have := unhide HGI; omega
      case rel =>
        have hbk := rowB_at (unhide HM) (by decide)
        have hwb := (unhide HW).size
        exact ⟨j, k + 1, cap', _, _, by omega, rfl, by go_num, rfl, by omega, Nat.le_trans hU4 (unhide HKK).size, HM2, (unhide HR).kept (unhide HKK) (fun g e _ _ hb => by have := hbk g hb; have := unhide HRT g e; omega), (unhide HC).kept (unhide HKK) (fun b hb => by have := hbk b hb; omega), (unhide HW).trans ((unhide HKK).below hwb fun b hb => by have := hbk b hb; omega)⟩
    · obtain rfl : i = 0 := by omega
      have hMl := (unhide HM).len (by decide)
      go_wp2
      refine bodyPost_ret (v := .tuple #[.slice ao m c, .int .i64 gap, .slice bo k d]) (by simp [results, Try.results21, go_sem]) rfl ⟨_, _, _, L, gap, _, _, _, M, rfl, (unhide HR).recs (by decide), unhide HP, (unhide HM).recs (by decide), by omega, unhide HW⟩

end Go.Proofs.Ytogoknldhimgfaa
