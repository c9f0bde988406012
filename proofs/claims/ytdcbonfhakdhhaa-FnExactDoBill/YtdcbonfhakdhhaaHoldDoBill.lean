/- Proved: FnExactDoBill, for every argument. Laid together by wip/mkbldo.py. -/
import Derived.Test.YtdcbonfhakdhhaaBlZ4
import Derived.Test.YtdcbonfhakdhhaaBlYi
import Derived.Test.YtdcbonfhakdhhaaBlP
import Derived.Test.YtdcbonfhakdhhaaBlA
import Derived.Deep.RegionHeld3
import Derived.Deep.DeepCutAuto
import Derived.Deep.Cut
import Derived.Test.YtdcbonfhakdhhaaBlX
import Derived.ProofKit
import Derived.OpenShut
import Derived.ShutString
import Derived.ChangeOld
import Derived.Below
import Derived.Deep.Matrix
import Derived.Lib.SmallJoins
import Derived.Carry
namespace Go.Proofs.Ytdcbonfhakdhhaa
section
open Go.RowKit

theorem specDoBill_any (bv fv : Value) (b : BkT) (kd id : Int) (who tt : ByteArray) (num many : Int) (w : World) (h : BkIn w bv fv b) (hbd : Bd b) (htx : ∀ x ∈ b.1, TxB x) (hto : txtBillOp (kd, id, who, tt, num, many) maxLen) :
    Calls Try.prog 9 #[vBook bv fv, vBillOp kd id who tt num many] w fun e w' => BAns w (doB b (kd, id, who, tt, num, many)) e w' := by
  cases hb : bookB b with
  | false => exact specDoBad_any bv fv b kd id who tt num many w h hbd htx hto (by rw [hb]; rfl)
  | true =>
  cases ho : opB (kd, id, who, tt, num, many) with
  | false => exact specDoBad_any bv fv b kd id who tt num many w h hbd htx hto (by rw [ho]; simp)
  | true =>
  by_cases h1 : kd = 1
  · subst h1
    have hm := op_many ho (Or.inl rfl)
    dsimp only at hm
    obtain ⟨mN, rfl⟩ : ∃ n : Nat, many = n := ⟨many.toNat, by omega⟩
    exact specIssue_any bv fv b id who tt num mN w h hbd htx hto hb ho
  by_cases h4 : kd = 4
  · exact specFree_any bv fv b kd id who tt num many w h hbd htx hto hb ho h1 h4
  · exact specPass_any bv fv b kd id who tt num many w h hbd htx hto hb ho h1 h4
/-- The program's answer, told as the specification's. -/
theorem implDoBill_b (bv fv : Value) (b : BkT) (kd id : Int) (who tt : ByteArray) (num many : Int) (w : World) (h : BkIn w bv fv b) (hbd : Bd b) :
    Calls Try.prog 8 #[vBook bv fv, vBillOp kd id who tt num many] w fun e w' => BAns w (doB b (kd, id, who, tt, num, many)) e w' := by
  refine (implDoBill_any bv fv b kd id who tt num many w h hbd).mono ?_
  rintro e w' ⟨g, m, cap, f, mf, fcap, E, rfl, eE, hP, hb⟩
  refine ⟨_, _, rfl, fun W2 hk => ?_, hb⟩
  have h9 := (hP.kept hk (fun k hA hT => by have hA : w.heap.size ≤ k := hA; have hT : k < w.heap.size := hT; omega)).ownB.inn
  rw [eE] at h9
  exact h9
structure Lw (w W : World) (av fv : Value) (ov : List Value) : Prop where
  below : Below w.heap.size w W
  arg : OwnV W w.heap.size [av, fv]
  op : OwnV W (w.heap.size + 1) ov
section
variable {w W W' : World} {av fv : Value} {ov : List Value}
theorem Lw.step (h : Lw w W av fv ov) (hb : Below W.heap.size W W') : Lw w W' av fv ov := ⟨Below.step h.below hb, h.arg.step hb, h.op.step hb⟩
theorem Lw.kept {T : Nat → Prop} (h : Lw w W av fv ov) (hk : Kept T W W') (hT : ∀ k, T k → w.heap.size + 1 < k) : Lw w W' av fv ov :=
  ⟨h.below.trans (hk.below h.below.size fun k x => by have := hT k x; omega), h.arg.kept hk (fun x => by have := hT _ x; omega), h.op.kept hk (fun x => by have := hT _ x; omega)⟩
theorem Lw.lt (h : Lw w W av fv ov) : w.heap.size + 1 < W.heap.size := h.op.lt
theorem kept_two (W : World) (g : Nat) (x y : Value) : Kept (fun b => b = g) W ((W.setCell ⟨g, 0, none⟩ x).setCell ⟨g, 1, none⟩ y) :=
  Kept.setCell (T := fun b => b = g) (Kept.setCell (T := fun b => b = g) (Kept.refl _ W) (p := ⟨g, 0, none⟩) rfl x) (p := ⟨g, 1, none⟩) rfl y
theorem kept_lt {n g : Nat} (hg : g < n) (h : Kept (fun b => b = g) W W') : Kept (fun b => b < n) W W' := h.mono fun k _ e => by have e : k = g := e; show k < n; omega
end

end

section
open Go.RowKit

set_option maxRecDepth 1000000 in
set_option maxHeartbeats 16000000 in
theorem lawDoBill_any (bv fv : Value) (b : BkT) (kd id : Int) (who tt : ByteArray) (num many : Int) (w : World) (h : BkIn w bv fv b) (ht : ∀ x ∈ b.1, TxB x) (hto : txtBillOp (kd, id, who, tt, num, many) maxLen) :
    Calls Try.prog 4 #[vBook bv fv, vBillOp kd id who tt num many] w fun e w' => e = .returned (.bool true) ∧ Below w.heap.size w w' := by
  have hx := h
  obtain ⟨⟨ao, cap, rfl, -⟩, ⟨fo, fcap, rfl, -⟩⟩ := hx
  have HV := hide h
  have HT := hide ht
  have A1 := Below.alloc1 w (.cells #[.slice ao b.1.length cap, .slice fo b.2.length fcap] 47)
  obtain ⟨X0, eX0⟩ : ∃ X, X = (w.alloc (.cells #[.slice ao b.1.length cap, .slice fo b.2.length fcap] 47)).alloc (.cells #[.int .i64 kd, .int .i64 id, .string who, .string tt, .int .i64 num, .int .i64 many] 48) := ⟨_, rfl⟩
  have HL : Hid (Lw w X0 (.slice ao b.1.length cap) (.slice fo b.2.length fcap) [.int .i64 kd, .int .i64 id, .string who, .string tt, .int .i64 num, .int .i64 many]) := by
    have h2 := ownV_alloc (w.alloc (.cells #[.slice ao b.1.length cap, .slice fo b.2.length fcap] 47)) #[.int .i64 kd, .int .i64 id, .string who, .string tt, .int .i64 num, .int .i64 many] 48
    rw [World.size_alloc] at h2
    show Lw _ _ _ _ _
    rw [eX0]
    exact ⟨below_alloc A1 _, (ownV_alloc w #[.slice ao b.1.length cap, .slice fo b.2.length fcap] 47).step (Below.alloc1 _ _), h2⟩
  have HSZ := hide fun V (hV : Below w.heap.size w V) l h0 h1 => szBook_any _ _ b l V ((unhide HV).below hV) (fun i hi => by rw [getD_lt hi]; exact unhide HT _ (List.getElem_mem _)) h0 h1
  have HSO := hide fun V l h0 h1 => szBillOp_any kd id who tt num many l V h0 h1 hto
  have HTO0 := hide fun V (hV : Below w.heap.size w V) hbd => toBook_any _ _ b V ((unhide HV).below hV) hbd
  have HTP := hide fun V => toBillOp_any kd id who tt num many V
  have HSP0 := hide fun V bv fv (hV : BkIn V bv fv b) hbd => specDoBill_any bv fv b kd id who tt num many V hV hbd (unhide HT) hto
  have HIP0 := hide fun V bv fv (hV : BkIn V bv fv b) hbd => implDoBill_any bv fv b kd id who tt num many V hV hbd
  have HIB0 := hide fun V bv fv (hV : BkIn V bv fv b) hbd => implDoBill_b bv fv b kd id who tt num many V hV hbd
  have HBD0 := hide fun (hbd : Bd b) => do_bd hbd (kd, id, who, tt, num, many)
  obtain ⟨⟨⟨LL, FF⟩, cd⟩, ev⟩ : ∃ z, z = doB b (kd, id, who, tt, num, many) := ⟨_, rfl⟩
  rw [← ev] at HSP0 HIP0 HIB0 HBD0
  dsimp only at HIP0 HBD0
  have hcd : (cd != cd) = false := by simp
  clear ev h ht hto A1
  unfold vBook at HSZ HTO0 HSP0 HIP0 HIB0 ⊢
  unfold vBillOp at HSO HTP HSP0 HIP0 HIB0 ⊢
  go_enter Try.func4, Try.ntmps4
  go_upto_region 2 with (fail)
  rw [← eX0]
  clear eX0
  have a0 := (unhide HL).arg.cell (i := 0) rfl
  have a1 := (unhide HL).arg.cell (i := 1) rfl
  go_wp2_with fail
  refine (unhide HSZ _ (unhide HL).below _ (by omega) (by omega)).mono ?_
  rintro e v0 ⟨r, rfl, hr0, hr1, hr2, hb⟩
  replace HL := hide ((unhide HL).step hb)
  have HR := hide hr2
  clear hb hr2 HSZ a0 a1
  by_cases hr : r < 0
  · have HW := hide (unhide HL).below
    go_wp2
    go_ret
    exact ⟨rfl, unhide HW⟩
  have HBD := hide (unhide HR (by omega))
  clear HR
  have o0 := (unhide HL).op.cell (i := 0) rfl
  have o1 := (unhide HL).op.cell (i := 1) rfl
  have o2 := (unhide HL).op.cell (i := 2) rfl
  have o3 := (unhide HL).op.cell (i := 3) rfl
  have o4 := (unhide HL).op.cell (i := 4) rfl
  have o5 := (unhide HL).op.cell (i := 5) rfl
  go_wp2_with fail
  refine (unhide HSO _ _ (by omega) (by omega)).mono ?_
  rintro e X ⟨r', rfl, hs0, hs1, hb⟩
  replace HL := hide ((unhide HL).step hb)
  clear hb HSO o0 o1 o2 o3 o4 o5
  by_cases hr' : r' < 0
  · have HW := hide (unhide HL).below
    go_wp2
    go_ret
    exact ⟨rfl, unhide HW⟩
  have HTO := hide fun V hV => unhide HTO0 V hV (unhide HBD)
  have HSP := hide fun V bv fv hV => unhide HSP0 V bv fv hV (unhide HBD)
  have HIP := hide fun V bv fv hV => unhide HIP0 V bv fv hV (unhide HBD)
  have HIB := hide fun V bv fv hV => unhide HIB0 V bv fv hV (unhide HBD)
  have HBB := hide (unhide HBD0 (unhide HBD))
  clear HTO0 HSP0 HIP0 HIB0 HBD0
  have sa0 := (unhide HL).arg.cell (i := 0) rfl
  have sa1 := (unhide HL).arg.cell (i := 1) rfl
  have so0 := (unhide HL).op.cell (i := 0) rfl
  have so1 := (unhide HL).op.cell (i := 1) rfl
  have so2 := (unhide HL).op.cell (i := 2) rfl
  have so3 := (unhide HL).op.cell (i := 3) rfl
  have so4 := (unhide HL).op.cell (i := 4) rfl
  have so5 := (unhide HL).op.cell (i := 5) rfl
  have zx0 := (unhide HL).lt
  have zx1 : ¬ X.heap.size = w.heap.size := (by omega)
  have zx2 : ¬ w.heap.size = X.heap.size := (by omega)
  have zx3 : ¬ X.heap.size = w.heap.size + 1 := (by omega)
  have zx4 : ¬ w.heap.size + 1 = X.heap.size := (by omega)
  go_upto_region 8 with (fail)
  go_cut [6, 7] (fun sl sb wx => ∃ (gw : Nat) (q1 : Option Addr) (q3 : Nat) (p1 : Option Addr) (p3 : Nat), sl = .pointer (some ⟨gw, 0, none⟩) ∧ sb = .int .i64 cd ∧ X.heap.size ≤ gw ∧ Hid (Below X.heap.size X wx) ∧ Hid (OwnV wx gw [.slice q1 LL.length q3, .slice p1 FF.length p3]) ∧ Hid (BkIn wx (.slice q1 LL.length q3) (.slice p1 FF.length p3) (LL, FF)))
  case first =>
    go_region_held3 (fun w' => w'.cell? ⟨w.heap.size, 0, none⟩ = some (.slice ao b.1.length cap) ∧ w'.cell? ⟨w.heap.size, 1, none⟩ = some (.slice fo b.2.length fcap) ∧ w'.cell? ⟨w.heap.size + 1, 0, none⟩ = some (.int .i64 kd) ∧ w'.cell? ⟨w.heap.size + 1, 1, none⟩ = some (.int .i64 id) ∧ w'.cell? ⟨w.heap.size + 1, 2, none⟩ = some (.string who) ∧ w'.cell? ⟨w.heap.size + 1, 3, none⟩ = some (.string tt) ∧ w'.cell? ⟨w.heap.size + 1, 4, none⟩ = some (.int .i64 num) ∧ w'.cell? ⟨w.heap.size + 1, 5, none⟩ = some (.int .i64 many)) (go_keep) (first
      | (go_at_call 17; refine (unhide HTO _ (by first | exact (unhide HL).below | exact (unhide HL).below.drew | exact below_alloc (unhide HL).below _ | exact (below_alloc (unhide HL).below _).drew)).mono ?_; rintro e wa ⟨bv1, fv1, E1, rfl, eB1, ho1, hb⟩; (try (have hgV := (unhide HNW).lt)); (first | (have HB1 : Hid (Below X.heap.size X wa) := hb) | (have HB1 : Hid (Below X.heap.size X wa) := below_undrewA hb) | (have HB1 : Hid (Below X.heap.size X wa) := Below.step (Below.alloc1 _ _) hb; have hgV := OwnV.lt (ownV_alloc X #[.slice none 0 0, .slice none 0 0] 27); have HNW := hide (OwnV.step (ownV_alloc X #[.slice none 0 0, .slice none 0 0] 27) hb)) | (have HB1 : Hid (Below X.heap.size X wa) := Below.step (Below.alloc1 _ _) (below_undrewA hb); have hgV := OwnV.lt (ownV_alloc X #[.slice none 0 0, .slice none 0 0] 27); have HNW := hide (OwnV.step (ownV_alloc X #[.slice none 0 0, .slice none 0 0] 27) (below_undrewA hb)))); (try replace HNW := hide (OwnV.step (unhide HNW) (unhide HB1))); (try (have n0 := (unhide HNW).cell (i := 0) rfl; have n1 := (unhide HNW).cell (i := 1) rfl; have nf := (unhide HNW).frozen)); have HL1 := hide ((unhide HL).step (unhide HB1)); have HK1 : Hid (BkIn wa bv1 fv1 b) := (by have h9 := ho1.inn; rw [eB1] at h9; exact h9); obtain ⟨⟨ba1, bc1, rfl, -⟩, ⟨fa1, fc1, rfl, -⟩⟩ := unhide HK1; have taa0 := (unhide HL1).arg.cell (i := 0) rfl; have taa1 := (unhide HL1).arg.cell (i := 1) rfl; have tao0 := (unhide HL1).op.cell (i := 0) rfl; have tao1 := (unhide HL1).op.cell (i := 1) rfl; have tao2 := (unhide HL1).op.cell (i := 2) rfl; have tao3 := (unhide HL1).op.cell (i := 3) rfl; have tao4 := (unhide HL1).op.cell (i := 4) rfl; have tao5 := (unhide HL1).op.cell (i := 5) rfl; have za0 := (unhide HL1).lt; have za1 : ¬ wa.heap.size = w.heap.size := (by omega); have za2 : ¬ w.heap.size = wa.heap.size := (by omega); have za3 : ¬ wa.heap.size = w.heap.size + 1 := (by omega); have za4 : ¬ w.heap.size + 1 = wa.heap.size := (by omega); clear hb ho1 eB1)
      | (go_at_call 18; refine (unhide HTP _).mono ?_; rintro e wb ⟨rfl, hb⟩; (try (have hgV := (unhide HNW).lt)); (first | (have HB2 : Hid (Below wa.heap.size wa wb) := hb) | (have HB2 : Hid (Below wa.heap.size wa wb) := below_undrewA hb) | (have HB2 : Hid (Below wa.heap.size wa wb) := Below.step (Below.alloc1 _ _) hb; have hgV := OwnV.lt (ownV_alloc wa #[.slice none 0 0, .slice none 0 0] 27); have HNW := hide (OwnV.step (ownV_alloc wa #[.slice none 0 0, .slice none 0 0] 27) hb)) | (have HB2 : Hid (Below wa.heap.size wa wb) := Below.step (Below.alloc1 _ _) (below_undrewA hb); have hgV := OwnV.lt (ownV_alloc wa #[.slice none 0 0, .slice none 0 0] 27); have HNW := hide (OwnV.step (ownV_alloc wa #[.slice none 0 0, .slice none 0 0] 27) (below_undrewA hb)))); (try replace HNW := hide (OwnV.step (unhide HNW) (unhide HB2))); (try (have n0 := (unhide HNW).cell (i := 0) rfl; have n1 := (unhide HNW).cell (i := 1) rfl; have nf := (unhide HNW).frozen)); have HL2 := hide ((unhide HL1).step (unhide HB2)); have HK2 := hide ((unhide HK1).below (unhide HB2)); have tba0 := (unhide HL2).arg.cell (i := 0) rfl; have tba1 := (unhide HL2).arg.cell (i := 1) rfl; have tbo0 := (unhide HL2).op.cell (i := 0) rfl; have tbo1 := (unhide HL2).op.cell (i := 1) rfl; have tbo2 := (unhide HL2).op.cell (i := 2) rfl; have tbo3 := (unhide HL2).op.cell (i := 3) rfl; have tbo4 := (unhide HL2).op.cell (i := 4) rfl; have tbo5 := (unhide HL2).op.cell (i := 5) rfl; have zb0 := (unhide HL2).lt; have zb1 : ¬ wb.heap.size = w.heap.size := (by omega); have zb2 : ¬ w.heap.size = wb.heap.size := (by omega); have zb3 : ¬ wb.heap.size = w.heap.size + 1 := (by omega); have zb4 : ¬ w.heap.size + 1 = wb.heap.size := (by omega); clear hb)
      | (go_at_call 9; refine (unhide HSP _ _ _ (by first | exact unhide HK2 | exact (unhide HK2).below (Below.refl _ _).drew | exact (unhide HK2).below (Below.alloc1 _ _) | exact ((unhide HK2).below (Below.alloc1 _ _)).below (Below.refl _ _).drew)).mono ?_; rintro e wd hA; obtain ⟨bv2, fv2, rfl, hin, hb⟩ := hA; unfold vBook; dsimp only at hin ⊢; have hin0 := hin wd (Kept.refl _ _); obtain ⟨⟨q1, q3, rfl, -⟩, ⟨p1, p3, rfl, -⟩⟩ := hin0; have HIN := hide hin; (try (have hgV := (unhide HNW).lt)); (first | (have HB3 : Hid (Below wb.heap.size wb wd) := hb) | (have HB3 : Hid (Below wb.heap.size wb wd) := below_undrewA hb) | (have HB3 : Hid (Below wb.heap.size wb wd) := Below.step (Below.alloc1 _ _) hb; have hgV := OwnV.lt (ownV_alloc wb #[.slice none 0 0, .slice none 0 0] 27); have HNW := hide (OwnV.step (ownV_alloc wb #[.slice none 0 0, .slice none 0 0] 27) hb)) | (have HB3 : Hid (Below wb.heap.size wb wd) := Below.step (Below.alloc1 _ _) (below_undrewA hb); have hgV := OwnV.lt (ownV_alloc wb #[.slice none 0 0, .slice none 0 0] 27); have HNW := hide (OwnV.step (ownV_alloc wb #[.slice none 0 0, .slice none 0 0] 27) (below_undrewA hb)))); (try replace HNW := hide (OwnV.step (unhide HNW) (unhide HB3))); (try (have n0 := (unhide HNW).cell (i := 0) rfl; have n1 := (unhide HNW).cell (i := 1) rfl; have nf := (unhide HNW).frozen)); have HL3 := hide ((unhide HL2).step (unhide HB3)); have tda0 := (unhide HL3).arg.cell (i := 0) rfl; have tda1 := (unhide HL3).arg.cell (i := 1) rfl; have tdo0 := (unhide HL3).op.cell (i := 0) rfl; have tdo1 := (unhide HL3).op.cell (i := 1) rfl; have tdo2 := (unhide HL3).op.cell (i := 2) rfl; have tdo3 := (unhide HL3).op.cell (i := 3) rfl; have tdo4 := (unhide HL3).op.cell (i := 4) rfl; have tdo5 := (unhide HL3).op.cell (i := 5) rfl; have zd0 := (unhide HL3).lt; have zd1 : ¬ wd.heap.size = w.heap.size := (by omega); have zd2 : ¬ w.heap.size = wd.heap.size := (by omega); have zd3 : ¬ wd.heap.size = w.heap.size + 1 := (by omega); have zd4 : ¬ w.heap.size + 1 = wd.heap.size := (by omega); have hsz1 := (unhide HB1).size; have hsz2 := (unhide HB2).size; have hsz3 := (unhide HB3).size; clear hb hin))
    all_goals
      go_wp2_with fail
      go_meet
      first
        | exact ⟨wd.heap.size, q1, q3, p1, p3, rfl, rfl, by omega, hide (Below.step (Below.step (Below.step (unhide HB1) (unhide HB2)) (unhide HB3)) (Below.alloc1 _ _)), hide (ownV_alloc wd #[.slice q1 LL.length q3, .slice p1 FF.length p3] 27), hide (((unhide HIN) wd (Kept.refl _ _)).below (Below.alloc1 _ _))⟩
        | exact ⟨_, q1, q3, p1, p3, rfl, rfl, by omega, hide ((Below.step (Below.step (unhide HB1) (unhide HB2)) (unhide HB3)).trans ((kept_two wd _ _ _).below (by omega) (fun k e => by have e : k = _ := e; omega))), hide (((unhide HNW).set 0 (.slice q1 LL.length q3) (by simp)).set 1 (.slice p1 FF.length p3) (by simp)), hide ((unhide HIN) _ (kept_lt hgV (kept_two wd _ _ _)))⟩
  case rest =>
    obtain ⟨gw, q1, q3, p1, p3, rfl, rfl, hgw, HBX, HOW, HKW⟩ := hcut
    generalize wc = VA at *
    replace HL := hide ((unhide HL).step (unhide HBX))
    have hgwl := (unhide HOW).lt
    have hXw := (unhide HL).lt
    have hwX : w.heap.size + 1 < X.heap.size := zx0
    clear HBX HSP sa0 sa1 so0 so1 so2 so3 so4 so5 zx0 zx1 zx2 zx3 zx4
    have HZ := hide (Below.refl VA.heap.size VA)
    have a0 := (unhide HL).arg.cell (i := 0) rfl
    have a1 := (unhide HL).arg.cell (i := 1) rfl
    go_wp2_with fail
    refine (unhide HTO _ (unhide HL).below).mono ?_
    rintro e VB ⟨bvx, fvx, Ex, rfl, eBx, hox, hb⟩
    have hVB := hb.size
    have HX := hide (hox.mono (A' := fun k => VA.heap.size ≤ k ∧ k < VB.heap.size) (fun k hk hA => ⟨hA, hk⟩))
    have EBX := hide eBx
    obtain ⟨⟨bax, bcx, rfl, -⟩, ⟨fax, fcx, rfl, -⟩⟩ := hox
    have AL := Below.alloc1 VB (.cells #[.slice bax Ex.length bcx, .slice fax b.2.length fcx] 27)
    have HGX := hide (ownV_alloc VB #[.slice bax Ex.length bcx, .slice fax b.2.length fcx] 27)
    have hb2 := Below.step hb AL
    replace HL := hide ((unhide HL).step hb2)
    replace HOW := hide ((unhide HOW).step hb2)
    replace HZ := hide (Below.step (unhide HZ) hb2)
    replace HX := hide ((unhide HX).step AL)
    clear hb hb2 AL a0 a1 eBx
    go_upto_region 10 with (fail)
    obtain ⟨VC, eVC⟩ : ∃ z, z = VB.alloc (.cells #[.slice bax Ex.length bcx, .slice fax b.2.length fcx] 27) := ⟨_, rfl⟩
    have hVC : VC.heap.size = VB.heap.size + 1 := by rw [eVC, World.size_alloc]
    rw [← eVC] at HL HOW HZ HX HGX ⊢
    obtain ⟨gx, egx⟩ : ∃ z, z = VB.heap.size := ⟨_, rfl⟩
    rw [← egx] at HGX ⊢
    have hgx1 : VB.heap.size ≤ gx := by omega
    have hgx2 : gx < VC.heap.size := by omega
    have hgx3 : ¬ VC.heap.size = gx := by omega
    have hgx4 : ¬ gx = VC.heap.size := by omega
    have hVCs : VB.heap.size < VC.heap.size := by omega
    clear eVC egx hVC
    have HKX : Hid (∀ V, Below VC.heap.size VC V → BkIn V (.slice bax Ex.length bcx) (.slice fax b.2.length fcx) b) := fun V hV => by
      have h9 := ((unhide HX).step hV).inn
      rw [unhide EBX] at h9
      exact h9
    have sa0 := (unhide HL).arg.cell (i := 0) rfl
    have sa1 := (unhide HL).arg.cell (i := 1) rfl
    have so0 := (unhide HL).op.cell (i := 0) rfl
    have so1 := (unhide HL).op.cell (i := 1) rfl
    have so2 := (unhide HL).op.cell (i := 2) rfl
    have so3 := (unhide HL).op.cell (i := 3) rfl
    have so4 := (unhide HL).op.cell (i := 4) rfl
    have so5 := (unhide HL).op.cell (i := 5) rfl
    have zx0 := (unhide HL).lt
    have zx1 : ¬ VC.heap.size = w.heap.size := (by omega)
    have zx2 : ¬ w.heap.size = VC.heap.size := (by omega)
    have zx3 : ¬ VC.heap.size = w.heap.size + 1 := (by omega)
    have zx4 : ¬ w.heap.size + 1 = VC.heap.size := (by omega)
    have sg0 := (unhide HGX).cell (i := 0) rfl
    have sg1 := (unhide HGX).cell (i := 1) rfl
    go_cut [9, 10] (fun sl sb wx => ∃ (gg g2 m2 cp2 f2 mf2 fcp2 : Nat) (E2 : List EBl), sl = .pointer (some ⟨gg, 0, none⟩) ∧ sb = .int .i64 cd ∧ VC.heap.size ≤ gg ∧ Hid (bills E2 = LL) ∧ Hid (Below VC.heap.size VC wx) ∧ Hid (OwnV wx gg [.slice (some ⟨g2, 0, none⟩) m2 cp2, .slice (some ⟨f2, 0, none⟩) mf2 fcp2]) ∧ Hid (OwnB (fun k => VC.heap.size ≤ k ∧ k ≠ gg) wx (.slice (some ⟨g2, 0, none⟩) m2 cp2) (.slice (some ⟨f2, 0, none⟩) mf2 fcp2) E2 FF))
    case first =>
      go_region_held3 (fun w' => w'.cell? ⟨w.heap.size + 1, 0, none⟩ = some (.int .i64 kd) ∧ w'.cell? ⟨w.heap.size + 1, 1, none⟩ = some (.int .i64 id) ∧ w'.cell? ⟨w.heap.size + 1, 2, none⟩ = some (.string who) ∧ w'.cell? ⟨w.heap.size + 1, 3, none⟩ = some (.string tt) ∧ w'.cell? ⟨w.heap.size + 1, 4, none⟩ = some (.int .i64 num) ∧ w'.cell? ⟨w.heap.size + 1, 5, none⟩ = some (.int .i64 many) ∧ w'.cell? ⟨gx, 0, none⟩ = some (.slice bax Ex.length bcx) ∧ w'.cell? ⟨gx, 1, none⟩ = some (.slice fax b.2.length fcx)) (go_keep) (first
        | (go_at_call 18; refine (unhide HTP _).mono ?_; rintro e wb ⟨rfl, hb⟩; (try (have hgV := (unhide HNW).lt)); (first | (have HB2 : Hid (Below VC.heap.size VC wb) := hb) | (have HB2 : Hid (Below VC.heap.size VC wb) := below_undrewA hb) | (have HB2 : Hid (Below VC.heap.size VC wb) := Below.step (Below.alloc1 _ _) hb; have hgV := OwnV.lt (ownV_alloc VC #[.slice none 0 0, .slice none 0 0] 27); have HNW := hide (OwnV.step (ownV_alloc VC #[.slice none 0 0, .slice none 0 0] 27) hb)) | (have HB2 : Hid (Below VC.heap.size VC wb) := Below.step (Below.alloc1 _ _) (below_undrewA hb); have hgV := OwnV.lt (ownV_alloc VC #[.slice none 0 0, .slice none 0 0] 27); have HNW := hide (OwnV.step (ownV_alloc VC #[.slice none 0 0, .slice none 0 0] 27) (below_undrewA hb)))); (try replace HNW := hide (OwnV.step (unhide HNW) (unhide HB2))); (try (have n0 := (unhide HNW).cell (i := 0) rfl; have n1 := (unhide HNW).cell (i := 1) rfl; have nf := (unhide HNW).frozen)); have HL2 := hide ((unhide HL).step (unhide HB2)); have tba0 := (unhide HL2).arg.cell (i := 0) rfl; have tba1 := (unhide HL2).arg.cell (i := 1) rfl; have tbo0 := (unhide HL2).op.cell (i := 0) rfl; have tbo1 := (unhide HL2).op.cell (i := 1) rfl; have tbo2 := (unhide HL2).op.cell (i := 2) rfl; have tbo3 := (unhide HL2).op.cell (i := 3) rfl; have tbo4 := (unhide HL2).op.cell (i := 4) rfl; have tbo5 := (unhide HL2).op.cell (i := 5) rfl; have zb0 := (unhide HL2).lt; have zb1 : ¬ wb.heap.size = w.heap.size := (by omega); have zb2 : ¬ w.heap.size = wb.heap.size := (by omega); have zb3 : ¬ wb.heap.size = w.heap.size + 1 := (by omega); have zb4 : ¬ w.heap.size + 1 = wb.heap.size := (by omega); have tbg0 := ((unhide HGX).step (unhide HB2)).cell (i := 0) rfl; have tbg1 := ((unhide HGX).step (unhide HB2)).cell (i := 1) rfl; have ytb0 : ¬ wb.heap.size = gx := (by have := (unhide HB2).size; omega); have ytb1 : ¬ gx = wb.heap.size := (by have := (unhide HB2).size; omega); clear hb)
        | (go_at_call 8; refine (unhide HIP _ _ _ (by first | exact unhide HKX _ (unhide HB2) | exact (unhide HKX _ (unhide HB2)).below (Below.refl _ _).drew | exact (unhide HKX _ (unhide HB2)).below (Below.alloc1 _ _) | exact ((unhide HKX _ (unhide HB2)).below (Below.alloc1 _ _)).below (Below.refl _ _).drew)).mono ?_; rintro e wd hA; obtain ⟨g2, m2, cp2, f2, mf2, fcp2, E2, rfl, eE2, hP2, hb⟩ := hA; unfold vBook; (try dsimp only at eE2 hP2); have HP2 := hide hP2; have HEE := hide eE2; (try (have hgV := (unhide HNW).lt)); (first | (have HB3 : Hid (Below wb.heap.size wb wd) := hb) | (have HB3 : Hid (Below wb.heap.size wb wd) := below_undrewA hb) | (have HB3 : Hid (Below wb.heap.size wb wd) := Below.step (Below.alloc1 _ _) hb; have hgV := OwnV.lt (ownV_alloc wb #[.slice none 0 0, .slice none 0 0] 27); have HNW := hide (OwnV.step (ownV_alloc wb #[.slice none 0 0, .slice none 0 0] 27) hb)) | (have HB3 : Hid (Below wb.heap.size wb wd) := Below.step (Below.alloc1 _ _) (below_undrewA hb); have hgV := OwnV.lt (ownV_alloc wb #[.slice none 0 0, .slice none 0 0] 27); have HNW := hide (OwnV.step (ownV_alloc wb #[.slice none 0 0, .slice none 0 0] 27) (below_undrewA hb)))); (try replace HNW := hide (OwnV.step (unhide HNW) (unhide HB3))); (try (have n0 := (unhide HNW).cell (i := 0) rfl; have n1 := (unhide HNW).cell (i := 1) rfl; have nf := (unhide HNW).frozen)); have HL3 := hide ((unhide HL2).step (unhide HB3)); have HBC := hide (Below.step (unhide HB2) (unhide HB3)); have tda0 := (unhide HL3).arg.cell (i := 0) rfl; have tda1 := (unhide HL3).arg.cell (i := 1) rfl; have tdo0 := (unhide HL3).op.cell (i := 0) rfl; have tdo1 := (unhide HL3).op.cell (i := 1) rfl; have tdo2 := (unhide HL3).op.cell (i := 2) rfl; have tdo3 := (unhide HL3).op.cell (i := 3) rfl; have tdo4 := (unhide HL3).op.cell (i := 4) rfl; have tdo5 := (unhide HL3).op.cell (i := 5) rfl; have zd0 := (unhide HL3).lt; have zd1 : ¬ wd.heap.size = w.heap.size := (by omega); have zd2 : ¬ w.heap.size = wd.heap.size := (by omega); have zd3 : ¬ wd.heap.size = w.heap.size + 1 := (by omega); have zd4 : ¬ w.heap.size + 1 = wd.heap.size := (by omega); have tdg0 := ((unhide HGX).step (unhide HBC)).cell (i := 0) rfl; have tdg1 := ((unhide HGX).step (unhide HBC)).cell (i := 1) rfl; have ytd0 : ¬ wd.heap.size = gx := (by have := (unhide HBC).size; omega); have ytd1 : ¬ gx = wd.heap.size := (by have := (unhide HBC).size; omega); have hsz2 := (unhide HB2).size; have hsz3 := (unhide HB3).size; clear hb hP2 eE2))
      all_goals
        go_wp2_with fail
        go_meet
        first
          | exact ⟨wd.heap.size, g2, m2, cp2, f2, mf2, fcp2, E2, rfl, rfl, by omega, HEE, hide (Below.step (unhide HBC) (Below.alloc1 _ _)), hide (ownV_alloc wd #[.slice (some ⟨g2, 0, none⟩) m2 cp2, .slice (some ⟨f2, 0, none⟩) mf2 fcp2] 27), hide (((unhide HP2).ownB.mono (A' := fun k => VC.heap.size ≤ k ∧ k ≠ wd.heap.size) (fun k hk hA => ⟨by have hA := hA; first | exact Nat.le_trans hsz2 hA | exact Nat.le_trans hsz2 (Nat.le_trans (Below.alloc1 _ _).size hA), by omega⟩)).step (Below.alloc1 _ _))⟩
          | exact ⟨_, g2, m2, cp2, f2, mf2, fcp2, E2, rfl, rfl, by omega, HEE, hide ((unhide HBC).trans ((kept_two wd _ _ _).below (by omega) (fun k e => by have e : k = _ := e; omega))), hide (((unhide HNW).set 0 (.slice (some ⟨g2, 0, none⟩) m2 cp2) (by simp)).set 1 (.slice (some ⟨f2, 0, none⟩) mf2 fcp2) (by simp)), hide ((((unhide HP2).kept (kept_two wd _ _ _) (fun k hA e => by have e : k = _ := e; rw [e] at hA; exact absurd hgV (Nat.not_lt.2 hA))).ownB).mono (fun k _ hA => ⟨by first | exact Nat.le_trans hsz2 hA | exact Nat.le_trans hsz2 (Nat.le_trans (Below.alloc1 _ _).size hA), fun e => by rw [e] at hA; exact absurd hgV (Nat.not_lt.2 hA)⟩))⟩
    case rest =>
      obtain ⟨gg, g2, m2, cp2, f2, mf2, fcp2, E2, rfl, rfl, hgg, HEE, HBX, HOG, HG⟩ := hcut
      generalize wc = VD at *
      clear sg0 sg1 sa0 sa1 so0 so1 so2 so3 so4 so5 zx0 zx1 zx2 zx3 zx4
      replace HL := hide ((unhide HL).step (unhide HBX))
      replace HOW := hide ((unhide HOW).step (unhide HBX))
      replace HGX := hide ((unhide HGX).step (unhide HBX))
      replace HX := hide ((unhide HX).step (unhide HBX))
      replace HZ := hide (Below.step (unhide HZ) (unhide HBX))
      have hVD := (unhide HBX).size
      have hggl := (unhide HOG).lt
      clear HBX HIP HKX hgx3 hgx4
      have HEQ := hide fun V h1 h2 => eqBook_any (.slice (some ⟨g2, 0, none⟩) m2 cp2) (.slice (some ⟨f2, 0, none⟩) mf2 fcp2) (.slice q1 LL.length q3) (.slice p1 FF.length p3) (LL, FF) V h1 h2
      unfold vBook at HEQ
      have HKG : Hid (BkIn VD (.slice (some ⟨g2, 0, none⟩) m2 cp2) (.slice (some ⟨f2, 0, none⟩) mf2 fcp2) (LL, FF)) := by have h9 := (unhide HG).inn; rw [unhide HEE] at h9; exact h9
      have HKWd := hide ((unhide HKW).below (unhide HZ))
      have g0 := (unhide HOG).cell (i := 0) rfl
      have g1 := (unhide HOG).cell (i := 1) rfl
      have u0 := (unhide HOW).cell (i := 0) rfl
      have u1 := (unhide HOW).cell (i := 1) rfl
      go_wp2_with fail
      refine (unhide HEQ _ (unhide HKG) (unhide HKWd)).mono ?_
      rintro e VE ⟨rfl, hb⟩
      replace HL := hide ((unhide HL).step hb)
      replace HOW := hide ((unhide HOW).step hb)
      replace HGX := hide ((unhide HGX).step hb)
      replace HOG := hide ((unhide HOG).step hb)
      replace HX := hide ((unhide HX).step hb)
      replace HG := hide ((unhide HG).step hb)
      replace HZ := hide (Below.step (unhide HZ) hb)
      clear hb g0 g1 u0 u1 HKG HKWd
      have HXB : Hid (∀ V, Below VE.heap.size VE V → BkIn V (.slice bax Ex.length bcx) (.slice fax b.2.length fcx) b) := fun V hV => by
        have h9 := ((unhide HX).step hV).inn
        rw [unhide EBX] at h9
        exact h9
      have HEQX := hide fun V a c f d (h1 : BkIn V (.slice bax Ex.length bcx) (.slice fax b.2.length fcx) b) (h2 : BkIn V (.slice a b.1.length c) (.slice f b.2.length d) b) => eqBook_any _ _ _ _ b V h1 h2
      unfold vBook at HEQX
      have sa0 := (unhide HL).arg.cell (i := 0) rfl
      have sa1 := (unhide HL).arg.cell (i := 1) rfl
      have sg0 := (unhide HGX).cell (i := 0) rfl
      have sg1 := (unhide HGX).cell (i := 1) rfl
      go_upto_region 13 with (fail)
      go_cut [56] (fun s56 wx => s56 = .bool false ∧ Hid (Below VE.heap.size VE wx))
      case first =>
        go_region_held3 (fun w' => w'.cell? ⟨w.heap.size, 0, none⟩ = some (.slice ao b.1.length cap) ∧ w'.cell? ⟨w.heap.size, 1, none⟩ = some (.slice fo b.2.length fcap) ∧ w'.cell? ⟨gx, 0, none⟩ = some (.slice bax Ex.length bcx) ∧ w'.cell? ⟨gx, 1, none⟩ = some (.slice fax b.2.length fcx)) (go_keep) (first
          | (go_at_call 17; refine (unhide HTO _ (by first | exact (unhide HL).below | exact (unhide HL).below.drew)).mono ?_; rintro e wa ⟨bv1, fv1, E1, rfl, eB1, ho1, hb⟩; (first | (have HB1 : Hid (Below VE.heap.size VE wa) := hb) | (have HB1 : Hid (Below VE.heap.size VE wa) := below_undrewA hb)); have HK1 : Hid (BkIn wa bv1 fv1 b) := (by have h9 := ho1.inn; rw [eB1] at h9; exact h9); obtain ⟨⟨ba1, bc1, rfl, -⟩, ⟨fa1, fc1, rfl, -⟩⟩ := unhide HK1; have ta0 := ((unhide HL).step (unhide HB1)).arg.cell (i := 0) rfl; have ta1 := ((unhide HL).step (unhide HB1)).arg.cell (i := 1) rfl; have tg0 := ((unhide HGX).step (unhide HB1)).cell (i := 0) rfl; have tg1 := ((unhide HGX).step (unhide HB1)).cell (i := 1) rfl; have HE1 := hide (unhide HEQX wa _ _ _ _ (unhide HXB _ (unhide HB1)) (unhide HK1)); clear hb ho1 eB1)
          | (go_at_call 19; refine (unhide HE1).mono ?_; rintro e wb ⟨rfl, hb⟩; (first | (have HB2 : Hid (Below wa.heap.size wa wb) := hb) | (have HB2 : Hid (Below wa.heap.size wa wb) := below_undrewA hb)); have ub0 := ((unhide HL).step (Below.step (unhide HB1) (unhide HB2))).arg.cell (i := 0) rfl; have ub1 := ((unhide HL).step (Below.step (unhide HB1) (unhide HB2))).arg.cell (i := 1) rfl; have ug0 := ((unhide HGX).step (Below.step (unhide HB1) (unhide HB2))).cell (i := 0) rfl; have ug1 := ((unhide HGX).step (Below.step (unhide HB1) (unhide HB2))).cell (i := 1) rfl; clear hb))
        all_goals
          go_wp2_with fail
          go_meet
          exact ⟨rfl, hide (Below.step (unhide HB1) (unhide HB2))⟩
      case rest =>
        obtain ⟨rfl, HBX⟩ := hcut
        generalize wc = VF at *
        clear sa0 sa1 sg0 sg1 HXB HEQX
        replace HL := hide ((unhide HL).step (unhide HBX))
        replace HOW := hide ((unhide HOW).step (unhide HBX))
        replace HGX := hide ((unhide HGX).step (unhide HBX))
        replace HOG := hide ((unhide HOG).step (unhide HBX))
        replace HX := hide ((unhide HX).step (unhide HBX))
        replace HG := hide ((unhide HG).step (unhide HBX))
        replace HZ := hide (Below.step (unhide HZ) (unhide HBX))
        clear HBX
        have HBX1 : Hid (Bd (bills Ex, b.2)) := by have h9 := unhide HBD; show Bd _; rw [unhide EBX]; exact h9
        have HBDG : Hid (Bd (bills E2, FF)) := by have h9 := unhide HBB; show Bd _; rw [unhide HEE]; exact h9
        have HM1 := hide fun V hV => markBook_v (fun k => VA.heap.size ≤ k ∧ k < VB.heap.size) (.slice bax Ex.length bcx) (.slice fax b.2.length fcx) Ex b.2 V hV (unhide HBX1)
        have HM2 := hide fun V hV => markBook_v (fun k => VC.heap.size ≤ k ∧ k ≠ gg) (.slice (some ⟨g2, 0, none⟩) m2 cp2) (.slice (some ⟨f2, 0, none⟩) mf2 fcp2) E2 FF V hV (unhide HBDG)
        have HH2 := hide fun V hV => heldBook_v (.slice (some ⟨g2, 0, none⟩) m2 cp2) (.slice (some ⟨f2, 0, none⟩) mf2 fcp2) E2 FF V hV (unhide HBDG)
        unfold vBook at HM1 HM2 HH2
        have hn1 : 0 ≤ endE Ex 1 + (b.2.length : Int) := by
          have := (endE_top (E := Ex) (k := 1) (by have := (unhide HBX1).1; simpa using this) (fun i hi => (unhide HBX1).2.2 _ (by rw [show (Ex.getD i default) = Ex[i] by simp [List.getD, hi]]; exact List.mem_map.2 ⟨Ex[i], List.getElem_mem _, rfl⟩)) (by omega) (by omega)).1
          omega
        have hn2 : 0 ≤ endE E2 1 + (FF.length : Int) := by
          have := (endE_top (E := E2) (k := 1) (by have := (unhide HBDG).1; simpa using this) (fun i hi => (unhide HBDG).2.2 _ (by rw [show (E2.getD i default) = E2[i] by simp [List.getD, hi]]; exact List.mem_map.2 ⟨E2[i], List.getElem_mem _, rfl⟩)) (by omega) (by omega)).1
          omega
        obtain ⟨N1, eN1⟩ : ∃ z, z = endE Ex 1 + (b.2.length : Int) := ⟨_, rfl⟩
        obtain ⟨N2, eN2⟩ : ∃ z, z = endE E2 1 + (FF.length : Int) := ⟨_, rfl⟩
        rw [← eN1] at hn1 HM1
        rw [← eN2] at hn2 HM2 HH2
        have dn1 : decide (N1 < 0) = false := by simp; omega
        have dn2 : decide (N2 < 0) = false := by simp; omega
        have hnn : (N2 != N2) = false := by simp
        clear eN1 eN2 HBX1 HBDG
        have g0 := (unhide HGX).cell (i := 0) rfl
        have g1 := (unhide HGX).cell (i := 1) rfl
        go_wp2_with fail
        refine (unhide HM1 _ (unhide HX)).mono ?_
        rintro e VG ⟨rfl, hk, -⟩
        have hVA := (unhide HL).lt
        replace HL := hide ((unhide HL).kept hk (fun k h => by have := h.1; omega))
        replace HOW := hide ((unhide HOW).kept hk (fun h => by have := h.1; omega))
        replace HOG := hide ((unhide HOG).kept hk (fun h => by have := h.2; omega))
        replace HG := hide ((unhide HG).kept hk (fun k h1 h2 => by have := h1.1; have := h2.2; omega))
        replace HZ := hide ((unhide HZ).trans (hk.below (unhide HZ).size (fun k h => h.1)))
        clear hk g0 g1 HGX HX HM1 hVA
        have HKG : Hid (BkIn VG (.slice (some ⟨g2, 0, none⟩) m2 cp2) (.slice (some ⟨f2, 0, none⟩) mf2 fcp2) (LL, FF)) := by have h9 := (unhide HG).inn; rw [unhide HEE] at h9; exact h9
        have HKWd := hide ((unhide HKW).below (unhide HZ))
        have g0 := (unhide HOG).cell (i := 0) rfl
        have g1 := (unhide HOG).cell (i := 1) rfl
        have u0 := (unhide HOW).cell (i := 0) rfl
        have u1 := (unhide HOW).cell (i := 1) rfl
        go_wp2_with fail
        refine (unhide HEQ _ (unhide HKG) (unhide HKWd)).mono ?_
        rintro e VH ⟨rfl, hb⟩
        replace HL := hide ((unhide HL).step hb)
        replace HOW := hide ((unhide HOW).step hb)
        replace HOG := hide ((unhide HOG).step hb)
        replace HG := hide ((unhide HG).step hb)
        replace HZ := hide (Below.step (unhide HZ) hb)
        clear hb g0 g1 u0 u1 HKG HKWd
        have g0 := (unhide HOG).cell (i := 0) rfl
        have g1 := (unhide HOG).cell (i := 1) rfl
        go_wp2_with fail
        refine (unhide HM2 _ (unhide HG)).mono ?_
        rintro e VI ⟨rfl, hk, hom⟩
        replace HL := hide ((unhide HL).kept hk (fun k h => by have := h.1; omega))
        replace HOW := hide ((unhide HOW).kept hk (fun h => by have := h.1; omega))
        replace HOG := hide ((unhide HOG).kept hk (fun h => h.2 rfl))
        replace HZ := hide ((unhide HZ).trans (hk.below (unhide HZ).size (fun k h => by have := h.1; omega)))
        have HGM := hide hom
        clear hk hom HG HM2 g0 g1
        have g0 := (unhide HOG).cell (i := 0) rfl
        have g1 := (unhide HOG).cell (i := 1) rfl
        go_wp2_with fail
        refine (unhide HH2 _ (unhide HGM).inn).mono ?_
        rintro e VJ ⟨rfl, hb⟩
        replace HL := hide ((unhide HL).step hb)
        replace HOW := hide ((unhide HOW).step hb)
        replace HOG := hide ((unhide HOG).step hb)
        replace HGM := hide ((unhide HGM).step hb)
        replace HZ := hide (Below.step (unhide HZ) hb)
        clear hb g0 g1
        generalize VJ = X2 at *
        have sa0 := (unhide HL).arg.cell (i := 0) rfl
        have sa1 := (unhide HL).arg.cell (i := 1) rfl
        have so0 := (unhide HL).op.cell (i := 0) rfl
        have so1 := (unhide HL).op.cell (i := 1) rfl
        have so2 := (unhide HL).op.cell (i := 2) rfl
        have so3 := (unhide HL).op.cell (i := 3) rfl
        have so4 := (unhide HL).op.cell (i := 4) rfl
        have so5 := (unhide HL).op.cell (i := 5) rfl
        have zx0 := (unhide HL).lt
        have zx1 : ¬ X2.heap.size = w.heap.size := (by omega)
        have zx2 : ¬ w.heap.size = X2.heap.size := (by omega)
        have zx3 : ¬ X2.heap.size = w.heap.size + 1 := (by omega)
        have zx4 : ¬ w.heap.size + 1 = X2.heap.size := (by omega)
        go_upto_region 27 with (fail)
        go_cut [14, 15] (fun sl sb wx => ∃ (gw : Nat) (q1 : Option Addr) (q3 : Nat) (p1 : Option Addr) (p3 : Nat), sl = .pointer (some ⟨gw, 0, none⟩) ∧ sb = .int .i64 cd ∧ X2.heap.size ≤ gw ∧ Hid (Below X2.heap.size X2 wx) ∧ Hid (OwnV wx gw [.slice q1 LL.length q3, .slice p1 FF.length p3]) ∧ Hid (BkIn wx (.slice q1 LL.length q3) (.slice p1 FF.length p3) (LL, FF)))
        case first =>
          go_region_held3 (fun w' => w'.cell? ⟨w.heap.size, 0, none⟩ = some (.slice ao b.1.length cap) ∧ w'.cell? ⟨w.heap.size, 1, none⟩ = some (.slice fo b.2.length fcap) ∧ w'.cell? ⟨w.heap.size + 1, 0, none⟩ = some (.int .i64 kd) ∧ w'.cell? ⟨w.heap.size + 1, 1, none⟩ = some (.int .i64 id) ∧ w'.cell? ⟨w.heap.size + 1, 2, none⟩ = some (.string who) ∧ w'.cell? ⟨w.heap.size + 1, 3, none⟩ = some (.string tt) ∧ w'.cell? ⟨w.heap.size + 1, 4, none⟩ = some (.int .i64 num) ∧ w'.cell? ⟨w.heap.size + 1, 5, none⟩ = some (.int .i64 many)) (go_keep) (first
            | (go_at_call 17; refine (unhide HTO _ (by first | exact (unhide HL).below | exact (unhide HL).below.drew | exact below_alloc (unhide HL).below _ | exact (below_alloc (unhide HL).below _).drew)).mono ?_; rintro e wa ⟨bv1, fv1, E1, rfl, eB1, ho1, hb⟩; (try (have hgV := (unhide HNW).lt)); (first | (have HB1 : Hid (Below X2.heap.size X2 wa) := hb) | (have HB1 : Hid (Below X2.heap.size X2 wa) := below_undrewA hb) | (have HB1 : Hid (Below X2.heap.size X2 wa) := Below.step (Below.alloc1 _ _) hb; have hgV := OwnV.lt (ownV_alloc X2 #[.slice none 0 0, .slice none 0 0] 27); have HNW := hide (OwnV.step (ownV_alloc X2 #[.slice none 0 0, .slice none 0 0] 27) hb)) | (have HB1 : Hid (Below X2.heap.size X2 wa) := Below.step (Below.alloc1 _ _) (below_undrewA hb); have hgV := OwnV.lt (ownV_alloc X2 #[.slice none 0 0, .slice none 0 0] 27); have HNW := hide (OwnV.step (ownV_alloc X2 #[.slice none 0 0, .slice none 0 0] 27) (below_undrewA hb)))); (try replace HNW := hide (OwnV.step (unhide HNW) (unhide HB1))); (try (have n0 := (unhide HNW).cell (i := 0) rfl; have n1 := (unhide HNW).cell (i := 1) rfl; have nf := (unhide HNW).frozen)); have HL1 := hide ((unhide HL).step (unhide HB1)); have HK1 : Hid (BkIn wa bv1 fv1 b) := (by have h9 := ho1.inn; rw [eB1] at h9; exact h9); obtain ⟨⟨ba1, bc1, rfl, -⟩, ⟨fa1, fc1, rfl, -⟩⟩ := unhide HK1; have taa0 := (unhide HL1).arg.cell (i := 0) rfl; have taa1 := (unhide HL1).arg.cell (i := 1) rfl; have tao0 := (unhide HL1).op.cell (i := 0) rfl; have tao1 := (unhide HL1).op.cell (i := 1) rfl; have tao2 := (unhide HL1).op.cell (i := 2) rfl; have tao3 := (unhide HL1).op.cell (i := 3) rfl; have tao4 := (unhide HL1).op.cell (i := 4) rfl; have tao5 := (unhide HL1).op.cell (i := 5) rfl; have za0 := (unhide HL1).lt; have za1 : ¬ wa.heap.size = w.heap.size := (by omega); have za2 : ¬ w.heap.size = wa.heap.size := (by omega); have za3 : ¬ wa.heap.size = w.heap.size + 1 := (by omega); have za4 : ¬ w.heap.size + 1 = wa.heap.size := (by omega); clear hb ho1 eB1)
            | (go_at_call 18; refine (unhide HTP _).mono ?_; rintro e wb ⟨rfl, hb⟩; (try (have hgV := (unhide HNW).lt)); (first | (have HB2 : Hid (Below wa.heap.size wa wb) := hb) | (have HB2 : Hid (Below wa.heap.size wa wb) := below_undrewA hb) | (have HB2 : Hid (Below wa.heap.size wa wb) := Below.step (Below.alloc1 _ _) hb; have hgV := OwnV.lt (ownV_alloc wa #[.slice none 0 0, .slice none 0 0] 27); have HNW := hide (OwnV.step (ownV_alloc wa #[.slice none 0 0, .slice none 0 0] 27) hb)) | (have HB2 : Hid (Below wa.heap.size wa wb) := Below.step (Below.alloc1 _ _) (below_undrewA hb); have hgV := OwnV.lt (ownV_alloc wa #[.slice none 0 0, .slice none 0 0] 27); have HNW := hide (OwnV.step (ownV_alloc wa #[.slice none 0 0, .slice none 0 0] 27) (below_undrewA hb)))); (try replace HNW := hide (OwnV.step (unhide HNW) (unhide HB2))); (try (have n0 := (unhide HNW).cell (i := 0) rfl; have n1 := (unhide HNW).cell (i := 1) rfl; have nf := (unhide HNW).frozen)); have HL2 := hide ((unhide HL1).step (unhide HB2)); have HK2 := hide ((unhide HK1).below (unhide HB2)); have tba0 := (unhide HL2).arg.cell (i := 0) rfl; have tba1 := (unhide HL2).arg.cell (i := 1) rfl; have tbo0 := (unhide HL2).op.cell (i := 0) rfl; have tbo1 := (unhide HL2).op.cell (i := 1) rfl; have tbo2 := (unhide HL2).op.cell (i := 2) rfl; have tbo3 := (unhide HL2).op.cell (i := 3) rfl; have tbo4 := (unhide HL2).op.cell (i := 4) rfl; have tbo5 := (unhide HL2).op.cell (i := 5) rfl; have zb0 := (unhide HL2).lt; have zb1 : ¬ wb.heap.size = w.heap.size := (by omega); have zb2 : ¬ w.heap.size = wb.heap.size := (by omega); have zb3 : ¬ wb.heap.size = w.heap.size + 1 := (by omega); have zb4 : ¬ w.heap.size + 1 = wb.heap.size := (by omega); clear hb)
            | (go_at_call 8; refine (unhide HIB _ _ _ (by first | exact unhide HK2 | exact (unhide HK2).below (Below.refl _ _).drew | exact (unhide HK2).below (Below.alloc1 _ _) | exact ((unhide HK2).below (Below.alloc1 _ _)).below (Below.refl _ _).drew)).mono ?_; rintro e wd hA; obtain ⟨bv2, fv2, rfl, hin, hb⟩ := hA; unfold vBook; dsimp only at hin ⊢; have hin0 := hin wd (Kept.refl _ _); obtain ⟨⟨q1, q3, rfl, -⟩, ⟨p1, p3, rfl, -⟩⟩ := hin0; have HIN := hide hin; (try (have hgV := (unhide HNW).lt)); (first | (have HB3 : Hid (Below wb.heap.size wb wd) := hb) | (have HB3 : Hid (Below wb.heap.size wb wd) := below_undrewA hb) | (have HB3 : Hid (Below wb.heap.size wb wd) := Below.step (Below.alloc1 _ _) hb; have hgV := OwnV.lt (ownV_alloc wb #[.slice none 0 0, .slice none 0 0] 27); have HNW := hide (OwnV.step (ownV_alloc wb #[.slice none 0 0, .slice none 0 0] 27) hb)) | (have HB3 : Hid (Below wb.heap.size wb wd) := Below.step (Below.alloc1 _ _) (below_undrewA hb); have hgV := OwnV.lt (ownV_alloc wb #[.slice none 0 0, .slice none 0 0] 27); have HNW := hide (OwnV.step (ownV_alloc wb #[.slice none 0 0, .slice none 0 0] 27) (below_undrewA hb)))); (try replace HNW := hide (OwnV.step (unhide HNW) (unhide HB3))); (try (have n0 := (unhide HNW).cell (i := 0) rfl; have n1 := (unhide HNW).cell (i := 1) rfl; have nf := (unhide HNW).frozen)); have HL3 := hide ((unhide HL2).step (unhide HB3)); have tda0 := (unhide HL3).arg.cell (i := 0) rfl; have tda1 := (unhide HL3).arg.cell (i := 1) rfl; have tdo0 := (unhide HL3).op.cell (i := 0) rfl; have tdo1 := (unhide HL3).op.cell (i := 1) rfl; have tdo2 := (unhide HL3).op.cell (i := 2) rfl; have tdo3 := (unhide HL3).op.cell (i := 3) rfl; have tdo4 := (unhide HL3).op.cell (i := 4) rfl; have tdo5 := (unhide HL3).op.cell (i := 5) rfl; have zd0 := (unhide HL3).lt; have zd1 : ¬ wd.heap.size = w.heap.size := (by omega); have zd2 : ¬ w.heap.size = wd.heap.size := (by omega); have zd3 : ¬ wd.heap.size = w.heap.size + 1 := (by omega); have zd4 : ¬ w.heap.size + 1 = wd.heap.size := (by omega); have hsz1 := (unhide HB1).size; have hsz2 := (unhide HB2).size; have hsz3 := (unhide HB3).size; clear hb hin))
          all_goals
            go_wp2_with fail
            go_meet
            first
              | exact ⟨wd.heap.size, q1, q3, p1, p3, rfl, rfl, by omega, hide (Below.step (Below.step (Below.step (unhide HB1) (unhide HB2)) (unhide HB3)) (Below.alloc1 _ _)), hide (ownV_alloc wd #[.slice q1 LL.length q3, .slice p1 FF.length p3] 27), hide (((unhide HIN) wd (Kept.refl _ _)).below (Below.alloc1 _ _))⟩
              | exact ⟨_, q1, q3, p1, p3, rfl, rfl, by omega, hide ((Below.step (Below.step (unhide HB1) (unhide HB2)) (unhide HB3)).trans ((kept_two wd _ _ _).below (by omega) (fun k e => by have e : k = _ := e; omega))), hide (((unhide HNW).set 0 (.slice q1 LL.length q3) (by simp)).set 1 (.slice p1 FF.length p3) (by simp)), hide ((unhide HIN) _ (kept_lt hgV (kept_two wd _ _ _)))⟩
        case rest =>
          obtain ⟨gh, s1, s3, t1, t3, rfl, rfl, hgh, HBX, HOH, HKH⟩ := hcut
          generalize wc = VK at *
          replace HL := hide ((unhide HL).step (unhide HBX))
          replace HOW := hide ((unhide HOW).step (unhide HBX))
          replace HOG := hide ((unhide HOG).step (unhide HBX))
          replace HGM := hide ((unhide HGM).step (unhide HBX))
          replace HZ := hide (Below.step (unhide HZ) (unhide HBX))
          clear HBX HIB sa0 sa1 so0 so1 so2 so3 so4 so5 zx0 zx1 zx2 zx3 zx4
          have HEQ2 := hide fun V h1 h2 => eqBook_any (.slice s1 LL.length s3) (.slice t1 FF.length t3) (.slice q1 LL.length q3) (.slice p1 FF.length p3) (LL, FF) V h1 h2
          unfold vBook at HEQ2
          have HKWd := hide ((unhide HKW).below (unhide HZ))
          have g0 := (unhide HOH).cell (i := 0) rfl
          have g1 := (unhide HOH).cell (i := 1) rfl
          have u0 := (unhide HOW).cell (i := 0) rfl
          have u1 := (unhide HOW).cell (i := 1) rfl
          go_wp2_with fail
          refine (unhide HEQ2 _ (unhide HKH) (unhide HKWd)).mono ?_
          rintro e VL ⟨rfl, hb⟩
          replace HL := hide ((unhide HL).step hb)
          replace HOG := hide ((unhide HOG).step hb)
          replace HGM := hide ((unhide HGM).step hb)
          clear hb g0 g1 u0 u1 HKWd HEQ2
          have g0 := (unhide HOG).cell (i := 0) rfl
          have g1 := (unhide HOG).cell (i := 1) rfl
          go_wp2_with fail
          refine (unhide HH2 _ (unhide HGM).inn).mono ?_
          rintro e VM ⟨rfl, hb⟩
          replace HL := hide ((unhide HL).step hb)
          replace HOG := hide ((unhide HOG).step hb)
          replace HGM := hide ((unhide HGM).step hb)
          clear hb g0 g1
          have HW := hide (unhide HL).below
          go_wp2
          go_ret
          exact ⟨rfl, unhide HW⟩

end

section
open Go.ChangeShapes Go.WideShapes Go.ChangeAt Go.RowKit Go.Deep

theorem Try.ownM : ownKnob Try.prog.godebug = none := by kernel_rfl
theorem Try.laidOutM : laidOutB Try.prog = true := by kernel_rfl
theorem Try.cellIntM : Try.prog.cellsOf 3 = 1 := by kernel_rfl
theorem Try.cellStrM : Try.prog.cellsOf 9 = 1 := by kernel_rfl
theorem Try.cellBoolM : Try.prog.cellsOf 4 = 1 := by kernel_rfl
theorem choose_lt {α : Type} [Inhabited α] {n : Nat} {p : Nat → α → Prop} (h : ∀ i, i < n → ∃ q, p i q) : ∃ f : Nat → α, ∀ i, i < n → p i (f i) :=
  ⟨fun i => if hi : i < n then Classical.choose (h i hi) else default, fun i hi => by simp only [dif_pos hi]; exact Classical.choose_spec (h i hi)⟩
set_option maxRecDepth 100000 in
theorem open_str {H : Type} {enc : TypeId × Value → H} {W : World} {base : Nat} {v0 : Value} {d0 : DataW H} {p0 : List MemPlace} (hv : Value.okWide Try.prog W .any base 9 v0)
    (h0 : DataW.Trod enc Try.prog W 0 (fun _ => true) true 9 v0 d0 p0) : ∃ s, v0 = .string s ∧ s.size ≤ maxLen := by
  obtain ⟨s0, rfl⟩ := okWide_string Try.underlying9 hv
  obtain ⟨fuel, hf⟩ := h0
  obtain ⟨s, e, _, sz⟩ := DataW.trod_string Try.underlying9 hf
  have e' : [Value.string s0] = [Value.string s] := e
  simp only [List.cons.injEq, and_true] at e'
  exact ⟨s, e', sz⟩

set_option maxRecDepth 100000 in
theorem flatBillOp_open {H : Type} {enc : TypeId × Value → H} {W : World} {base : Nat} {v : Value} {d : DataW H} {p : List MemPlace} {f0 f1 f2 f3 f4 f5 : Field} (hs : Try.prog.underlying 48 = some (.struct #[f0, f1, f2, f3, f4, f5]))
    (ho : [f0.offset, f1.offset, f2.offset, f3.offset, f4.offset, f5.offset] = [0, 1, 2, 3, 4, 5]) (hy : [f0.type, f1.type, f2.type, f3.type, f4.type, f5.type] = [3, 3, 9, 9, 3, 3]) (hC : Try.prog.cellsOf 48 = 6)
    (hv : Value.okWide Try.prog W .any base 48 v) (h : DataW.Trod enc Try.prog W 0 (fun _ => true) true 48 v d p) : ∃ (x0 : Int) (x1 : Int) (x2 : ByteArray) (x3 : ByteArray) (x4 : Int) (x5 : Int), v = vBillOp x0 x1 x2 x3 x4 x5 ∧ x2.size ≤ maxLen ∧ x3.size ≤ maxLen := by
  simp only [List.cons.injEq, and_true] at ho hy
  obtain ⟨o0, o1, o2, o3, o4, o5⟩ := ho
  obtain ⟨u0, u1, u2, u3, u4, u5⟩ := hy
  obtain ⟨⟨l⟩, rfl, hsz⟩ := okWide_struct hs hv
  rw [hC] at hsz
  obtain ⟨fuel, hf⟩ := h
  obtain ⟨xs, n, _, _, _, hlen, hx⟩ := DataW.trod_struct hs hf
  match l, hsz, xs, hlen with
  | [v0, v1, v2, v3, v4, v5], _, [y0, y1, y2, y3, y4, y5], _ =>
    have g0 := hx 0 f0 rfl
    have g1 := hx 1 f1 rfl
    have g2 := hx 2 f2 rfl
    have g3 := hx 3 f3 rfl
    have g4 := hx 4 f4 rfl
    have g5 := hx 5 f5 rfl
    simp [Value.cells, o0, o1, o2, o3, o4, o5, u0, u1, u2, u3, u4, u5, Try.cellIntM, Try.cellStrM] at g0 g1 g2 g3 g4 g5
    obtain ⟨z0, e0, _, _⟩ := DataW.trod_int Try.underlying3 g0
    obtain ⟨z1, e1, _, _⟩ := DataW.trod_int Try.underlying3 g1
    obtain ⟨z2, e2, _, s2⟩ := DataW.trod_string Try.underlying9 g2
    obtain ⟨z3, e3, _, s3⟩ := DataW.trod_string Try.underlying9 g3
    obtain ⟨z4, e4, _, _⟩ := DataW.trod_int Try.underlying3 g4
    obtain ⟨z5, e5, _, _⟩ := DataW.trod_int Try.underlying3 g5
    simp only [List.cons.injEq, and_true] at e0 e1 e2 e3 e4 e5
    subst e0 e1 e2 e3 e4 e5
    exact ⟨z0, z1, z2, z3, z4, z5, rfl, s2, s3⟩

set_option maxRecDepth 100000 in
theorem open_BillOp1 {H : Type} {enc : TypeId × Value → H} {W : World} {base : Nat} {v0 : Value} {d0 : DataW H} {p0 : List MemPlace} (hv : Value.okWide Try.prog W .any base 48 v0)
    (h0 : DataW.Trod enc Try.prog W 0 (fun _ => true) true 48 v0 d0 p0) : ∃ (x0 : Int) (x1 : Int) (x2 : ByteArray) (x3 : ByteArray) (x4 : Int) (x5 : Int), v0 = vBillOp x0 x1 x2 x3 x4 x5 ∧ x2.size ≤ maxLen ∧ x3.size ≤ maxLen :=
  flatBillOp_open Try.underlying48 rfl rfl (by kernel_rfl) hv h0

set_option maxRecDepth 100000 in
theorem recsBillOp_open {H : Type} {enc : TypeId × Value → H} {W : World} {v : Value} {fuel : Nat} {x : DataW H × List MemPlace} {f0 f1 f2 f3 f4 f5 : Field} (ht : Try.prog.underlying 56 = some (.slice 48)) (he : Try.prog.underlying 48 = some (.struct #[f0, f1, f2, f3, f4, f5])) (ce : Try.prog.cellsOf 48 = 6)
    (ho : [f0.offset, f1.offset, f2.offset, f3.offset, f4.offset, f5.offset] = [0, 1, 2, 3, 4, 5]) (hty : [f0.type, f1.type, f2.type, f3.type, f4.type, f5.type] = [3, 3, 9, 9, 3, 3])
    (h : DataW.trod enc Try.prog W 0 (fun _ => true) true fuel 56 [v] = some x) : ∃ L, RBillOp W v L ∧ ∀ i, i < L.length → txtBillOp (L.getD i default) maxLen := by
  simp only [List.cons.injEq, and_true] at ho hty
  obtain ⟨o0, o1, o2, o3, o4, o5⟩ := ho
  obtain ⟨u0, u1, u2, u3, u4, u5⟩ := hty
  rcases open_slice ht h with ⟨hcs, _⟩ | ⟨a, len, cap, m, n, D, Pl, hcs, _, hl, hm, hmm, _, hx⟩
  · simp only [List.cons.injEq, and_true] at hcs
    subst hcs
    exact ⟨[], recsIn_nil, fun i hi => by simp at hi⟩
  simp only [List.cons.injEq, and_true] at hcs
  subst hcs
  simp only [if_true] at hmm
  subst hmm
  have each : ∀ i, i < len → ∃ q : BillOpT, (∀ j, j < 6 → W.cell? (a.add (i * 6 + j)) = some (eBillOp q j)) ∧ txtBillOp q maxLen := by
    intro i hin
    obtain ⟨cs', h1, h2⟩ := hx i (by omega)
    rw [ce] at h1
    obtain ⟨_, hlen, hcell⟩ := World.cells?_some h1
    obtain ⟨xs, k, hk, hxy, _, hxl, hf⟩ := DataW.trod_struct he h2
    match xs, hxl, cs', hlen with
    | [y0, y1, y2, y3, y4, y5], _, [v0, v1, v2, v3, v4, v5], _ =>
      have g0 := hf 0 f0 rfl
      have g1 := hf 1 f1 rfl
      have g2 := hf 2 f2 rfl
      have g3 := hf 3 f3 rfl
      have g4 := hf 4 f4 rfl
      have g5 := hf 5 f5 rfl
      simp [o0, o1, o2, o3, o4, o5, u0, u1, u2, u3, u4, u5, Try.cellIntM, Try.cellStrM] at g0 g1 g2 g3 g4 g5
      obtain ⟨z0, e0, _, _⟩ := DataW.trod_int Try.underlying3 g0
      obtain ⟨z1, e1, _, _⟩ := DataW.trod_int Try.underlying3 g1
      obtain ⟨z2, e2, _, sz2⟩ := DataW.trod_string Try.underlying9 g2
      obtain ⟨z3, e3, _, sz3⟩ := DataW.trod_string Try.underlying9 g3
      obtain ⟨z4, e4, _, _⟩ := DataW.trod_int Try.underlying3 g4
      obtain ⟨z5, e5, _, _⟩ := DataW.trod_int Try.underlying3 g5
      simp only [List.cons.injEq, and_true] at e0 e1 e2 e3 e4 e5
      have d0 := hcell 0 (by omega)
      rw [add_add] at d0
      subst e0
      have d1 := hcell 1 (by omega)
      rw [add_add] at d1
      subst e1
      have d2 := hcell 2 (by omega)
      rw [add_add] at d2
      subst e2
      have d3 := hcell 3 (by omega)
      rw [add_add] at d3
      subst e3
      have d4 := hcell 4 (by omega)
      rw [add_add] at d4
      subst e4
      have d5 := hcell 5 (by omega)
      rw [add_add] at d5
      subst e5
      refine ⟨(z0, z1, z2, z3, z4, z5), fun j hj => ?_, ⟨sz2, sz3⟩⟩
      match j, hj with
      | 0, _ => simpa [eBillOp] using d0
      | 1, _ => simpa [eBillOp] using d1
      | 2, _ => simpa [eBillOp] using d2
      | 3, _ => simpa [eBillOp] using d3
      | 4, _ => simpa [eBillOp] using d4
      | 5, _ => simpa [eBillOp] using d5
  obtain ⟨q, hq⟩ := choose_lt each
  refine ⟨(List.range len).map q, ⟨some a, _, by simp, by simpa using hl, hm, fun i hi => ?_⟩, fun i hi => ?_⟩
  · simp only [List.length_map, List.length_range] at hi
    obtain ⟨b, o, sp⟩ := a
    have hs : sp = none := by simpa [Addr.add] using World.cell?_spot ((hq 0 (by omega)).1 0 (by omega))
    subst hs
    refine ⟨b, o, rfl, fun j hj => ?_⟩
    rw [← add_plain, (hq i hi).1 j hj]
    simp [List.getD, hi]
  · simp only [List.length_map, List.length_range] at hi
    have e : ((List.range len).map q).getD i default = q i := by simp [List.getD, hi]
    rw [e]
    exact (hq i hi).2

set_option maxRecDepth 100000 in
theorem open_BillOpS {H : Type} {enc : TypeId × Value → H} {W : World} {base : Nat} {v0 : Value} {d0 : DataW H} {p0 : List MemPlace} (hv : Value.okWide Try.prog W .any base 56 v0)
    (h0 : DataW.Trod enc Try.prog W 0 (fun _ => true) true 56 v0 d0 p0) : ∃ L, RBillOp W v0 L ∧ ∀ i, i < L.length → txtBillOp (L.getD i default) maxLen := by
  obtain ⟨a0, len0, cap0, rfl⟩ := okWide_slice Try.underlying56 hv
  obtain ⟨fuel, hf⟩ := h0
  exact recsBillOp_open Try.underlying56 Try.underlying48 (by kernel_rfl) rfl rfl hf

theorem intsS_open {H : Type} {enc : TypeId × Value → H} {W : World} {v : Value} {fuel : Nat} {x : DataW H × List MemPlace} {P : Program} {t ti : TypeId} (hi : P.underlying ti = some (.int .i64)) (ci : P.cellsOf ti = 1)
    (ht : P.underlying t = some (.slice ti)) (h : DataW.trod enc P W 0 (fun _ => true) true fuel t [v] = some x) : ∃ L, IntsIn W v L ∧ ∀ i, i < L.length → -9223372036854775808 ≤ L.getD i 0 ∧ L.getD i 0 ≤ 9223372036854775807 := by
  rcases open_ints ht hi ci h with ⟨hcs, _⟩ | ⟨a, len, cap, zs, hcs, _, hl, hm, hz, _, hcell, hwf⟩
  · simp only [List.cons.injEq, and_true] at hcs
    subst hcs
    exact ⟨[], ⟨none, 0, rfl, Nat.le_refl _, Nat.zero_le _, fun i hi => by simp at hi⟩, fun i hi => by simp at hi⟩
  · simp only [List.cons.injEq, and_true] at hcs
    subst hcs
    simp only [if_true] at hz
    have hl' : (zs.take len).length = len := by rw [List.length_take]; omega
    have hg : ∀ i, i < len → (zs.take len).getD i 0 = zs.getD i 0 := fun i hi => by simp [List.getD, hi]
    refine ⟨zs.take len, ⟨some a, cap, by rw [hl'], by rw [hl']; exact hl, hm, fun i hi => ?_⟩, fun i hi => ?_⟩
    · rw [hl'] at hi
      obtain ⟨b, o, sp⟩ := a
      have hs : sp = none := by simpa [Addr.add] using World.cell?_spot (hcell 0 (by omega))
      subst hs
      refine ⟨b, o, rfl, ?_⟩
      rw [← add_plain, hcell i (by omega), hg i hi]
    · rw [hl'] at hi
      rw [hg i hi]
      have hm' : zs.getD i 0 ∈ zs := by rw [getD_lt (show i < zs.length by omega)]; exact List.getElem_mem _
      have := hwf _ hm'
      clear hg hwf hcell hm'
      generalize zs.getD i 0 = y at *
      simp [Lit.wf, IntKind.min, IntKind.max, IntKind.bits, IntKind.signed] at this
      omega

set_option maxRecDepth 100000 in
theorem strs_open {H : Type} {enc : TypeId × Value → H} {W : World} {v : Value} {fuel : Nat} {x : DataW H × List MemPlace} (h : DataW.trod enc Try.prog W 0 (fun _ => true) true fuel 38 [v] = some x) : ∃ L, SIn W v L ∧ ∀ i, i < L.length → (L.getD i default).size ≤ maxLen := by
  rcases open_slice Try.underlying38 h with ⟨hcs, _⟩ | ⟨a, len, cap, m, n, D, Pl, hcs, _, hl, hm, hmm, _, hx⟩
  · simp only [List.cons.injEq, and_true] at hcs
    subst hcs
    exact ⟨[], cIn_nil, fun i hi => by simp at hi⟩
  simp only [List.cons.injEq, and_true] at hcs
  subst hcs
  simp only [if_true] at hmm
  subst hmm
  have each : ∀ i, i < len → ∃ q : ByteArray, W.cell? (a.add i) = some (.string q) ∧ q.size ≤ maxLen := by
    intro i hin
    obtain ⟨cs', h1, h2⟩ := hx i (by omega)
    rw [Try.cellStrM] at h1
    obtain ⟨_, hlen, hcell⟩ := World.cells?_some h1
    match cs', hlen with
    | [v0], _ =>
      obtain ⟨z, e, _, sz⟩ := DataW.trod_string Try.underlying9 h2
      simp only [List.cons.injEq, and_true] at e
      have d := hcell 0 (by omega)
      rw [add_add] at d
      subst e
      exact ⟨z, by simpa using d, sz⟩
  obtain ⟨q, hq⟩ := choose_lt each
  have eq : ∀ i, i < len → ((List.range len).map q).getD i default = q i := fun i hi => by simp [List.getD, hi]
  refine ⟨(List.range len).map q, ⟨some a, _, by simp, by simpa using hl, hm, fun i hi => ?_⟩, fun i hi => ?_⟩
  · simp only [List.length_map, List.length_range] at hi
    obtain ⟨b, o, sp⟩ := a
    have hs : sp = none := by simpa [Addr.add] using World.cell?_spot (hq 0 (by omega)).1
    subst hs
    rw [eq i hi]
    have c := (hq i hi).1
    rw [add_plain] at c
    exact ⟨b, o, rfl, c⟩
  · simp only [List.length_map, List.length_range] at hi
    rw [eq i hi]
    exact (hq i hi).2

set_option maxRecDepth 100000 in
theorem bills_open {H : Type} {enc : TypeId × Value → H} {W : World} {v : Value} {fuel : Nat} {x : DataW H × List MemPlace} (h : DataW.trod enc Try.prog W 0 (fun _ => true) true fuel 45 [v] = some x) : ∃ L, BlsIn W v L ∧ ∀ i, i < L.length → TxB (L.getD i default) := by
  have ce : Try.prog.cellsOf 111 = 5 := by kernel_rfl
  have cn : Try.prog.cellsOf 38 = 1 := by kernel_rfl
  rcases open_slice Try.underlying45 h with ⟨hcs, _⟩ | ⟨a, len, cap, m, n, D, Pl, hcs, _, hl, hm, hmm, _, hx⟩
  · simp only [List.cons.injEq, and_true] at hcs
    subst hcs
    exact ⟨[], blsIn_nil, fun i hi => by simp at hi⟩
  simp only [List.cons.injEq, and_true] at hcs
  subst hcs
  simp only [if_true] at hmm
  subst hmm
  have each : ∀ i, i < len → ∃ q : BlT, (W.cell? (a.add (i * 5)) = some (.int .i64 q.1) ∧ W.cell? (a.add (i * 5 + 1)) = some (.string q.2.1) ∧ W.cell? (a.add (i * 5 + 2)) = some (.string q.2.2.1) ∧ W.cell? (a.add (i * 5 + 3)) = some (.int .i64 q.2.2.2.1) ∧ ∃ na nc, W.cell? (a.add (i * 5 + 4)) = some (.slice na q.2.2.2.2.length nc) ∧ SIn W (.slice na q.2.2.2.2.length nc) q.2.2.2.2) ∧ TxB q := by
    intro i hin
    obtain ⟨cs', h1, h2⟩ := hx i (by omega)
    rw [ce] at h1
    obtain ⟨_, hlen, hcell⟩ := World.cells?_some h1
    obtain ⟨xs, k, hk, hxy, _, hxl, hf⟩ := DataW.trod_struct Try.underlying111 h2
    match xs, hxl, cs', hlen with
    | [y0, y1, y2, y3, y4], _, [v0, v1, v2, v3, v4], _ =>
      have g0 := hf 0 _ rfl
      have g1 := hf 1 _ rfl
      have g2 := hf 2 _ rfl
      have g3 := hf 3 _ rfl
      have g4 := hf 4 _ rfl
      simp [Try.cellIntM, Try.cellStrM, cn] at g0 g1 g2 g3 g4
      obtain ⟨z0, e0, _, _⟩ := DataW.trod_int Try.underlying3 g0
      obtain ⟨z1, e1, _, s1⟩ := DataW.trod_string Try.underlying9 g1
      obtain ⟨z2, e2, _, s2⟩ := DataW.trod_string Try.underlying9 g2
      obtain ⟨z3, e3, _, _⟩ := DataW.trod_int Try.underlying3 g3
      obtain ⟨M, hM, hT⟩ := strs_open g4
      simp only [List.cons.injEq, and_true] at e0 e1 e2 e3
      have d0 := hcell 0 (by omega)
      have d1 := hcell 1 (by omega)
      have d2 := hcell 2 (by omega)
      have d3 := hcell 3 (by omega)
      have d4 := hcell 4 (by omega)
      rw [add_add] at d0 d1 d2 d3 d4
      subst e0 e1 e2 e3
      obtain ⟨na, nc, eN, _⟩ := _root_.id hM
      subst eN
      exact ⟨(_, _, _, _, M), ⟨by simpa using d0, by simpa using d1, by simpa using d2, by simpa using d3, na, nc, by simpa using d4, hM⟩, s1, s2, hT⟩
  obtain ⟨q, hq⟩ := choose_lt each
  have eq : ∀ i, i < len → ((List.range len).map q).getD i default = q i := fun i hi => by simp [List.getD, hi]
  refine ⟨(List.range len).map q, ⟨some a, _, by simp, by simpa using hl, hm, fun i hi => ?_⟩, fun i hi => ?_⟩
  · simp only [List.length_map, List.length_range] at hi
    obtain ⟨b, o, sp⟩ := a
    have hs : sp = none := by simpa [Addr.add] using World.cell?_spot (hq 0 (by omega)).1.1
    subst hs
    rw [eq i hi]
    obtain ⟨⟨c0, c1, c2, c3, na, nc, c4, hU⟩, _⟩ := hq i hi
    rw [add_plain] at c0 c1 c2 c3 c4
    exact ⟨b, o, na, nc, rfl, c0, by rw [Nat.add_assoc]; exact c1, by rw [Nat.add_assoc]; exact c2, by rw [Nat.add_assoc]; exact c3, by rw [Nat.add_assoc]; exact c4, hU⟩
  · simp only [List.length_map, List.length_range] at hi
    rw [eq i hi]
    exact (hq i hi).2

theorem two_open {H : Type} {enc : TypeId × Value → H} {W : World} {base : Nat} {P : Program} {t : TypeId} {f0 f1 : Field} {v : Value} {d : DataW H} {p : List MemPlace} (hs : P.underlying t = some (.struct #[f0, f1]))
    (ho : [f0.offset, f1.offset] = [0, 1]) (hc : [P.cellsOf f0.type, P.cellsOf f1.type] = [1, 1]) (hC : P.cellsOf t = 2)
    (hv : Value.okWide P W .any base t v) (h : DataW.Trod enc P W 0 (fun _ => true) true t v d p) :
    ∃ (v0 v1 : Value) (y0 y1 : DataW H × List MemPlace) (n : Nat), v = .agg #[v0, v1] ∧ DataW.trod enc P W 0 (fun _ => true) true n f0.type [v0] = some y0 ∧ DataW.trod enc P W 0 (fun _ => true) true n f1.type [v1] = some y1 := by
  simp only [List.cons.injEq, and_true] at ho hc
  obtain ⟨o0, o1⟩ := ho
  obtain ⟨c0, c1⟩ := hc
  obtain ⟨⟨l⟩, rfl, hsz⟩ := okWide_struct hs hv
  rw [hC] at hsz
  obtain ⟨fuel, hf⟩ := h
  obtain ⟨xs, n, _, _, _, hlen, hx⟩ := DataW.trod_struct hs hf
  match l, hsz, xs, hlen with
  | [v0, v1], _, [y0, y1], _ =>
    have g0 := hx 0 f0 rfl
    have g1 := hx 1 f1 rfl
    simp [Value.cells, o0, o1, c0, c1] at g0 g1
    exact ⟨v0, v1, y0, y1, n, rfl, g0, g1⟩

set_option maxRecDepth 100000 in
theorem open_book {H : Type} {enc : TypeId × Value → H} {W : World} {base : Nat} {v0 : Value} {d0 : DataW H} {p0 : List MemPlace} (hv : Value.okWide Try.prog W .any base 47 v0)
    (h0 : DataW.Trod enc Try.prog W 0 (fun _ => true) true 47 v0 d0 p0) : ∃ bv fv b, v0 = vBook bv fv ∧ BkIn W bv fv b ∧ ∀ x ∈ b.1, TxB x := by
  obtain ⟨c0, c1, y0, y1, n, rfl, t0, t1⟩ := two_open Try.underlying47 (by kernel_rfl) (by kernel_rfl) (by kernel_rfl) hv h0
  obtain ⟨L, hL, hT⟩ := bills_open t0
  obtain ⟨F, hF, -⟩ := intsS_open Try.underlying3 Try.cellIntM Try.underlying25 t1
  exact ⟨c0, c1, (L, F), rfl, ⟨hL, hF⟩, fun x hx => by
    obtain ⟨i, hi, rfl⟩ := List.mem_iff_getElem.1 hx
    have := hT i hi
    rwa [getD_lt hi] at this⟩

end

section
open Go.ChangeShapes Go.WideShapes Go.ChangeAt Go.RowKit Go.Deep

set_option maxRecDepth 100000 in
theorem exactDoBill_lifted (os : Os) (started : os.Started) (H : Type) (enc : TypeId × Value → H) :
    ReturnsInHanded {} Try.checked os 4 .any (Rows.fnExactDoBillSpec.pre6 enc Try.prog Try.f4 Rows.fnExactDoBillRow.domain false) (Rows.fnExactDoBillSpec.post enc Try.prog Try.f4 false true false false) := by
  refine returnsInHanded_of_change (C := Try.checked) Try.ownM started (by kernel_rfl) Try.func4
    (ChangeSpec.witness6 (enc := enc) (C := Try.checked) false ⟨#[], #[.agg #[.slice none 0 0, .slice none 0 0], .agg #[.int .i64 0, .int .i64 0, .string ⟨#[]⟩, .string ⟨#[]⟩, .int .i64 0, .int .i64 0]], []⟩ 8 (by kernel_rfl) (by kernel_rfl) (by kernel_rfl) (by kernel_rfl)) ?_
  intro W base args ds gs before hval0 hW _ _
  have hval : ∀ (j : Nat) t v, Try.f4.params[j]? = some t → args[j]? = some v → Value.okWide Try.prog W .any base t v := hval0
  have hW' := hW
  obtain ⟨p, q, hA0, hV, rfl, _, _⟩ := hW
  have hA : DataW.TrodAll enc Try.prog W 0 (fun _ => true) true Try.f4.params.toList args.toList ds p := hA0
  rw [Try.params4] at hA hval
  obtain ⟨al⟩ := args
  obtain ⟨v0, vs0, d0, ds0, p0, q0, ha, rfl, rfl, h0, r0⟩ := trodAll_cons hA
  obtain ⟨v1, vs1, d1, ds1, p1, q1, rfl, rfl, rfl, h1, r1⟩ := trodAll_cons r0
  obtain ⟨rfl, rfl, rfl⟩ := trodAll_nil r1
  dsimp only at ha
  subst ha
  obtain ⟨rfl, rfl⟩ := trodVars_none hV
  have k0 := h0
  have lt0 : ∀ x ∈ p0, x.block < W.heap.size := by obtain ⟨m, hm⟩ := k0; exact DataW.trod_lt m _ _ _ hm
  have k1 := h1
  have lt1 : ∀ x ∈ p1, x.block < W.heap.size := by obtain ⟨m, hm⟩ := k1; exact DataW.trod_lt m _ _ _ hm
  obtain ⟨x0_0, x0_1, b0, rfl, H0, T0⟩ := open_book (hval 0 47 v0 rfl rfl) h0
  obtain ⟨x1_0, x1_1, x1_2, x1_3, x1_4, x1_5, rfl, z1_2, z1_3⟩ := open_BillOp1 (hval 1 48 v1 rfl rfl) h1
  clear hA0 hval0
  refine (lawDoBill_any x0_0 x0_1 b0 x1_0 x1_1 x1_2 x1_3 x1_4 x1_5 W H0 T0 ⟨z1_2, z1_3⟩).mono fun e W' ⟨he, bel⟩ => ?_
  subst he
  exact ⟨_, rfl, _, _, _, [], _, [], hW', trodAll_mk1 (shut_bool Try.underlying4 _), (trodAll_cons_mk (Below.trod Try.laidOutM (by kernel_rfl) (of_decide_eq_true (by kernel_rfl)) k0 bel lt0) (trodAll_cons_mk (Below.trod Try.laidOutM (by kernel_rfl) (of_decide_eq_true (by kernel_rfl)) k1 bel lt1) (trodAll_mk0))), rfl, bel.frame _, fun h => by cases h⟩

set_option maxRecDepth 100000 in
theorem exactDoBill_holds : Rows.FnExactDoBillSaid :=
  OpenClaim.holds_of_wide 4 Try.f4 rfl rfl rfl rfl rfl rfl rfl ⟨rfl, rfl, rfl, rfl, rfl⟩ rfl rfl rfl rfl rfl (by kernel_rfl) Try.func4 (by kernel_rfl)
    (of_decide_eq_true (by kernel_rfl)) (by unfold Func.isWrapper; first | (rw [if_pos (by decide +kernel)]; kernel_rfl) | (rw [if_neg (by decide +kernel)]; exact ⟨rfl, rfl⟩))
    (fun os started H enc _ => exactDoBill_lifted os started H enc)

end

end Go.Proofs.Ytdcbonfhakdhhaa
