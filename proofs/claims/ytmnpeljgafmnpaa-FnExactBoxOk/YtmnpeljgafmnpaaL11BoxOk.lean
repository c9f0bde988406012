/- The law of BoxOk, walked. Written by wip/mk11.py. -/
import Derived.Test.YtmnpeljgafmnpaaBxD
namespace Go.Proofs.Ytmnpeljgafmnpaa
open Go.RowKit

set_option maxRecDepth 10000 in
set_option maxHeartbeats 6400000 in
theorem lawBoxOk_any (n : ByteArray) (wt cl : Int) (co : Bool) (fr to : Int) (w : World) (hs : n.size ≤ maxLen) : Calls Try.prog 7 #[vBox n wt cl co fr to] w fun e w' => e = .returned (.bool true) ∧ Below w.heap.size w w' := by
  have HZ := hide fun V => szBox_any n wt cl co fr to 1048576 V (by omega) (by omega) hs
  have HT := hide fun V => toBox_any n wt cl co fr to V
  have HS := hide fun V => specBoxOk_any n wt cl co fr to V
  have HI := hide fun V => implBoxOk_any n wt cl co fr to V
  generalize boxB n wt cl fr to = R at *
  unfold vBox at *
  have HB := hide (ownV_alloc w #[.string n, .int .i64 wt, .int .i64 cl, .bool co, .int .i64 fr, .int .i64 to] 35)
  have HW := hide (Below.alloc1 w (.cells #[.string n, .int .i64 wt, .int .i64 cl, .bool co, .int .i64 fr, .int .i64 to] 35))
  have c0 := (unhide HB).cell (i := 0) rfl
  have c1 := (unhide HB).cell (i := 1) rfl
  have c2 := (unhide HB).cell (i := 2) rfl
  have c3 := (unhide HB).cell (i := 3) rfl
  have c4 := (unhide HB).cell (i := 4) rfl
  have c5 := (unhide HB).cell (i := 5) rfl
  go_enter Try.func7, Try.ntmps7
  go_wp2_with fail
  refine (unhide HZ _).mono ?_
  rintro e w1 ⟨l, rfl, hl0, hl1, hb⟩
  replace HB := hide ((unhide HB).step hb)
  replace HW := hide (Below.step (unhide HW) hb)
  clear hb c0 c1 c2 c3 c4 c5
  have c0 := (unhide HB).cell (i := 0) rfl
  have c1 := (unhide HB).cell (i := 1) rfl
  have c2 := (unhide HB).cell (i := 2) rfl
  have c3 := (unhide HB).cell (i := 3) rfl
  have c4 := (unhide HB).cell (i := 4) rfl
  have c5 := (unhide HB).cell (i := 5) rfl
  by_cases hneg : l < 0
  · go_wp2
    go_ret
    exact ⟨rfl, unhide HW⟩
  go_wp2_with fail
  refine (unhide HT _).mono ?_
  rintro e w2 ⟨rfl, hb⟩
  replace HB := hide ((unhide HB).step hb)
  replace HW := hide (Below.step (unhide HW) hb)
  clear hb c0 c1 c2 c3 c4 c5
  have c0 := (unhide HB).cell (i := 0) rfl
  have c1 := (unhide HB).cell (i := 1) rfl
  have c2 := (unhide HB).cell (i := 2) rfl
  have c3 := (unhide HB).cell (i := 3) rfl
  have c4 := (unhide HB).cell (i := 4) rfl
  have c5 := (unhide HB).cell (i := 5) rfl
  go_wp2_with fail
  refine (unhide HS _).mono ?_
  rintro e w3 ⟨rfl, hb⟩
  replace HB := hide ((unhide HB).step hb)
  replace HW := hide (Below.step (unhide HW) hb)
  clear hb c0 c1 c2 c3 c4 c5
  have c0 := (unhide HB).cell (i := 0) rfl
  have c1 := (unhide HB).cell (i := 1) rfl
  have c2 := (unhide HB).cell (i := 2) rfl
  have c3 := (unhide HB).cell (i := 3) rfl
  have c4 := (unhide HB).cell (i := 4) rfl
  have c5 := (unhide HB).cell (i := 5) rfl
  go_wp2_with fail
  refine (unhide HT _).mono ?_
  rintro e w4 ⟨rfl, hb⟩
  replace HB := hide ((unhide HB).step hb)
  replace HW := hide (Below.step (unhide HW) hb)
  clear hb c0 c1 c2 c3 c4 c5
  have c0 := (unhide HB).cell (i := 0) rfl
  have c1 := (unhide HB).cell (i := 1) rfl
  have c2 := (unhide HB).cell (i := 2) rfl
  have c3 := (unhide HB).cell (i := 3) rfl
  have c4 := (unhide HB).cell (i := 4) rfl
  have c5 := (unhide HB).cell (i := 5) rfl
  go_wp2_with fail
  refine (unhide HI _).mono ?_
  rintro e w5 ⟨rfl, hb⟩
  replace HB := hide ((unhide HB).step hb)
  replace HW := hide (Below.step (unhide HW) hb)
  clear hb c0 c1 c2 c3 c4 c5
  have c0 := (unhide HB).cell (i := 0) rfl
  have c1 := (unhide HB).cell (i := 1) rfl
  have c2 := (unhide HB).cell (i := 2) rfl
  have c3 := (unhide HB).cell (i := 3) rfl
  have c4 := (unhide HB).cell (i := 4) rfl
  have c5 := (unhide HB).cell (i := 5) rfl
  clear HZ HT HS HI
  cases R <;> (go_wp2; go_ret; exact ⟨rfl, unhide HW⟩)

end Go.Proofs.Ytmnpeljgafmnpaa
