/- FnExactGreat: at every argument the program's Great answers as the specification's. Written by wip/mkexact4.py. -/
import Derived.Test.YteohkabenbaaaaaFlI3
import Derived.Deep.RegionHeld3
namespace Go.Proofs.Yteohkabenbaaaaa
open Go.RowKit

attribute [local go_sem] run_store_float run_store_complex

set_option maxHeartbeats 4000000 in
theorem lawGreat_any (x0 y0 : Nat) (w : World) :
    Calls Try.prog 6 #[vS x0 y0] w fun e w' => e = .returned (.bool true) ∧ Below w.heap.size w w' := by
  have HW := hide (Below.refl w.heap.size w)
  have Hspec := hide fun V => specGreat_any x0 y0 V
  have Himpl := hide fun V => implGreat_any x0 y0 V
  have HTOSmall := hide fun x y V => toSmall_any x y V
  simp only [vS, vW] at Hspec Himpl HTOSmall ⊢
  go_enter Try.func6, Try.ntmps6
  have A0 := Below.alloc1 (w) (.cells #[.float .f32 x0, .float .f32 y0] 52)
  replace HW := hide (Below.step (unhide HW) A0)
  have hB := ownV_alloc (w) #[.float .f32 x0, .float .f32 y0] 52
  have HB0 := hide hB
  clear hB A0
  have c00 := OwnV.cell (unhide HB0) (i := 0) rfl
  have c01 := OwnV.cell (unhide HB0) (i := 1) rfl
  go_wp2_with fail
  refine (unhide HTOSmall _ _ _).mono ?_
  rintro e w1 ⟨rfl, hb⟩
  replace HW := hide (Below.step (unhide HW) hb)
  replace HB0 := hide (OwnV.step (unhide HB0) hb)
  clear hb
  clear c00 c01
  have c00 := OwnV.cell (unhide HB0) (i := 0) rfl
  have c01 := OwnV.cell (unhide HB0) (i := 1) rfl
  go_wp2_with fail
  refine (unhide Hspec _).mono ?_
  rintro e w2 ⟨rspec, sspec, rfl, hrspec, hsspec, hb⟩
  replace HW := hide (Below.step (unhide HW) hb)
  replace HB0 := hide (OwnV.step (unhide HB0) hb)
  have z2 := hb.size
  clear hb Hspec
  clear c00 c01
  have AG := Below.alloc1 (w2) (.cells #[.float .f64 rspec, .float .f64 sspec] 32)
  replace HW := hide (Below.step (unhide HW) AG)
  replace HB0 := hide (OwnV.step (unhide HB0) AG)
  have HGspec := hide (ownV_alloc (w2) #[.float .f64 rspec, .float .f64 sspec] 32)
  clear AG
  have c00 := OwnV.cell (unhide HB0) (i := 0) rfl
  have c01 := OwnV.cell (unhide HB0) (i := 1) rfl
  go_wp2_with fail
  refine (unhide HTOSmall _ _ _).mono ?_
  rintro e w3 ⟨rfl, hb⟩
  replace HW := hide (Below.step (unhide HW) hb)
  replace HB0 := hide (OwnV.step (unhide HB0) hb)
  replace HGspec := hide (OwnV.step (unhide HGspec) hb)
  clear hb
  clear c00 c01
  have c00 := OwnV.cell (unhide HB0) (i := 0) rfl
  have c01 := OwnV.cell (unhide HB0) (i := 1) rfl
  go_wp2_with fail
  refine (unhide Himpl _).mono ?_
  rintro e w4 ⟨rimpl, simpl, rfl, hrimpl, hsimpl, hb⟩
  replace HW := hide (Below.step (unhide HW) hb)
  replace HB0 := hide (OwnV.step (unhide HB0) hb)
  replace HGspec := hide (OwnV.step (unhide HGspec) hb)
  have z4 := hb.size
  clear hb Himpl
  clear c00 c01
  have AG := Below.alloc1 (w4) (.cells #[.float .f64 rimpl, .float .f64 simpl] 32)
  replace HW := hide (Below.step (unhide HW) AG)
  replace HB0 := hide (OwnV.step (unhide HB0) AG)
  replace HGspec := hide (OwnV.step (unhide HGspec) AG)
  have HGimpl := hide (ownV_alloc (w4) #[.float .f64 rimpl, .float .f64 simpl] 32)
  clear AG
  have HEQ := hide fun V => eqWave_any rimpl simpl rspec sspec V (hrimpl.trans hrspec.symm) (hsimpl.trans hsspec.symm)
  simp only [vW] at HEQ
  have dHGspec0 := OwnV.cell (unhide HGspec) (i := 0) rfl
  have dHGspec1 := OwnV.cell (unhide HGspec) (i := 1) rfl
  have dHGimpl0 := OwnV.cell (unhide HGimpl) (i := 0) rfl
  have dHGimpl1 := OwnV.cell (unhide HGimpl) (i := 1) rfl
  go_wp2_with fail
  refine (unhide HEQ _).mono ?_
  rintro e we ⟨rfl, hb⟩
  replace HW := hide (Below.step (unhide HW) hb)
  clear hb
  go_wp2
  go_ret
  exact ⟨rfl, unhide HW⟩

end Go.Proofs.Yteohkabenbaaaaa
