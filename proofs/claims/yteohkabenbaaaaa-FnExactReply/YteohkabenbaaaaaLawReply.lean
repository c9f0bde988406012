/- FnExactReply: at every argument the program's Reply answers as the specification's. Written by wip/mkexact4.py. -/
import Derived.Test.YteohkabenbaaaaaFlI4
import Derived.Deep.RegionHeld3
namespace Go.Proofs.Yteohkabenbaaaaa
open Go.RowKit

attribute [local go_sem] run_store_float run_store_complex

set_option maxHeartbeats 4000000 in
theorem lawReply_any (x0 x1 : Nat) (w : World) :
    Calls Try.prog 15 #[.float .f64 x0, .float .f64 x1] w fun e w' => e = .returned (.bool true) ∧ Below w.heap.size w w' := by
  have HW := hide (Below.refl w.heap.size w)
  have Hspec := hide fun V => specReply_any x0 x1 V
  have Himpl := hide fun V => implReply_any x0 x1 V
  obtain ⟨ok, eok⟩ : ∃ b, b = overOk one64 0 (rpC x0) (rpD x0 x1) := ⟨_, rfl⟩
  rw [← eok] at Hspec Himpl
  clear eok
  simp only [vW] at Hspec Himpl ⊢
  go_enter Try.func15, Try.ntmps15
  go_wp2_with fail
  refine (unhide Hspec _).mono ?_
  rintro e w1 ⟨rspec, sspec, rfl, hrspec, hsspec, hb⟩
  replace HW := hide (Below.step (unhide HW) hb)
  have z1 := hb.size
  clear hb Hspec
  have AG := Below.alloc1 (w1) (.cells #[.float .f64 rspec, .float .f64 sspec] 32)
  replace HW := hide (Below.step (unhide HW) AG)
  have HGspec := hide (ownV_alloc (w1) #[.float .f64 rspec, .float .f64 sspec] 32)
  clear AG
  go_wp2_with fail
  refine (unhide Himpl _).mono ?_
  rintro e w2 ⟨rimpl, simpl, rfl, hrimpl, hsimpl, hb⟩
  replace HW := hide (Below.step (unhide HW) hb)
  replace HGspec := hide (OwnV.step (unhide HGspec) hb)
  have z2 := hb.size
  clear hb Himpl
  have AG := Below.alloc1 (w2) (.cells #[.float .f64 rimpl, .float .f64 simpl] 32)
  replace HW := hide (Below.step (unhide HW) AG)
  replace HGspec := hide (OwnV.step (unhide HGspec) AG)
  have HGimpl := hide (ownV_alloc (w2) #[.float .f64 rimpl, .float .f64 simpl] 32)
  clear AG
  have HEQ := hide fun V => eqWave_any rimpl simpl rspec sspec V (hrimpl.trans hrspec.symm) (hsimpl.trans hsspec.symm)
  simp only [vW] at HEQ
  have dHGspec0 := OwnV.cell (unhide HGspec) (i := 0) rfl
  have dHGspec1 := OwnV.cell (unhide HGspec) (i := 1) rfl
  have dHGimpl0 := OwnV.cell (unhide HGimpl) (i := 0) rfl
  have dHGimpl1 := OwnV.cell (unhide HGimpl) (i := 1) rfl
  go_wp2_with fail
  refine (unhide HEQ _).mono ?_
  rintro e we ⟨rfl, hb⟩
  replace HW := hide (Below.step (unhide HW) hb)
  clear hb
  go_wp2
  go_ret
  exact ⟨rfl, unhide HW⟩

end Go.Proofs.Yteohkabenbaaaaa
