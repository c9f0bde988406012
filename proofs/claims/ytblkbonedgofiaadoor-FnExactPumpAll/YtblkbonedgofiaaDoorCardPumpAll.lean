/- Proved: the tied card of FnExactPumpAll: the row, its one listed variable tied to the program's text by the given tie. Written by wip/mk10.py. -/
import Derived.Test.YtblkbonedgofiaaDoorHoldPumpAll
import Derived.Test.YtblkbonedgofiaaDoorCards
import Derived.Test.YtblkbonedgofiaaDoorTie
import Derived.SevenTiedAt
namespace Go.Proofs.YtblkbonedgofiaaDoor
open Go

theorem exactPumpAll_holds : Rows.FnExactPumpAllCardSaid :=
  Claim7.holds_tied_plain_at .later [] [.handle] true (true, "e4e250e52996bd4ae217f18bfc73458b08ed3c97ab7b62f3d955e5e731187ab6") true
    exactPumpAll_row (fun _ h => by cases h) (by kernel_rfl) (fun _ h => by cases h) fnExactPumpAll_row_tie rfl ⟨rfl, rfl⟩ (by kernel_rfl) rfl
    (fun f fn hf hfn => by
      obtain rfl : f = 5 := Option.some.inj ((show Tryd.prog.funcNamed "loop.example/g00059/laws.FnExactPumpAll" = some 5 by kernel_rfl).symm.trans hf) |>.symm
      obtain rfl : fn = Tryd.f5 := (Option.some.inj (Tryd.func5.symm.trans hfn)).symm
      exact ⟨by kernel_rfl, fun j t ht => by
        rw [Tryd.params5] at ht
        rcases j with _ | j
        · have e : t = 38 := by simpa using ht.symm
          subst e
          exact (show Tryd.prog.wantsStandIn 38 = false by kernel_rfl)
        rcases j with _ | j
        · have e : t = 46 := by simpa using ht.symm
          subst e
          exact (show Tryd.prog.wantsStandIn 46 = false by kernel_rfl)
        simp at ht⟩)
    (by kernel_rfl)

end Go.Proofs.YtblkbonedgofiaaDoor
