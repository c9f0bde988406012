/- The law of Moved, walked. Written by wip/mkexact8.py. -/
import Derived.Test.YtmgcpllkielpkaaRrL
import Derived.Test.YtmgcpllkielpkaaFlatA
import Derived.Test.YtmgcpllkielpkaaRgI
namespace Go.Proofs.Ytmgcpllkielpkaa
open Go.RowKit

set_option maxRecDepth 10000 in
set_option maxHeartbeats 3200000 in
theorem lawMoved_any (ax ay au av ak ad m : Int) (w : World) : Calls Try.prog 11 #[vShip ax ay au av ak ad, .int .i64 m] w fun e w' => e = .returned (.bool true) ∧ Below w.heap.size w w' := by
  have HB := hide (bk_one w #[.int .i64 ax, .int .i64 ay, .int .i64 au, .int .i64 av, .int .i64 ak, .int .i64 ad] 42)
  have HT := hide fun W => toShip_any ax ay au av ak ad W
  have HS := hide fun W => specMoved_any ax ay au av ak ad m W
  have HI := hide fun W => implMoved_any ax ay au av ak ad m W
  obtain ⟨y0, y1, y2, y3, y4, y5, ey⟩ : ∃ y0 y1 y2 y3 y4 y5, movV ax ay au av ak ad m = vShip y0 y1 y2 y3 y4 y5 := by
    unfold movV
    cases movB ax ay au av ak ad m
    · exact ⟨_, _, _, _, _, _, rfl⟩
    · exact ⟨_, _, _, _, _, _, rfl⟩
  rw [ey] at HS HI
  have HE := hide fun W => eqShip_any y0 y1 y2 y3 y4 y5 W
  obtain ⟨b, eb⟩ : ∃ b, b = movB ax ay au av ak ad m := ⟨_, rfl⟩
  rw [← eb] at HS HI
  clear ey eb
  unfold vShip at HT HS HI HE ⊢
  go_enter Try.func11, Try.ntmps11
  go_wp2_with fail
  refine (unhide HT _).mono ?_
  rintro e w1 ⟨rfl, hb⟩
  replace HB := hide ((unhide HB).step hb)
  clear hb
  go_wp2_with fail
  refine (unhide HS _).mono ?_
  rintro e w2 ⟨rfl, hb⟩
  replace HB := hide ((unhide HB).step hb)
  clear hb
  have hq := (unhide HB).ownV (k := 0) rfl
  have c0 := hq.cell (i := 0) rfl
  have c1 := hq.cell (i := 1) rfl
  have c2 := hq.cell (i := 2) rfl
  have c3 := hq.cell (i := 3) rfl
  have c4 := hq.cell (i := 4) rfl
  have c5 := hq.cell (i := 5) rfl
  have lt0 := hq.lt
  clear hq
  replace HB := hide ((unhide HB).made 1 #[.int .i64 y0, .int .i64 y1, .int .i64 y2, .int .i64 y3, .int .i64 y4, .int .i64 y5] 25)
  go_wp2_with fail
  refine (unhide HT _).mono ?_
  rintro e w3 ⟨rfl, hb⟩
  replace HB := hide ((unhide HB).step hb)
  clear hb
  clear c0 c1 c2 c3 c4 c5
  go_wp2_with fail
  refine (unhide HI _).mono ?_
  rintro e w4 ⟨rfl, hb⟩
  replace HB := hide ((unhide HB).step hb)
  clear hb
  have hq := (unhide HB).ownV (k := 1) rfl
  have c0 := hq.cell (i := 0) rfl
  have c1 := hq.cell (i := 1) rfl
  have c2 := hq.cell (i := 2) rfl
  have c3 := hq.cell (i := 3) rfl
  have c4 := hq.cell (i := 4) rfl
  have c5 := hq.cell (i := 5) rfl
  have lt1 := hq.lt
  clear hq
  replace HB := hide ((unhide HB).made 2 #[.int .i64 y0, .int .i64 y1, .int .i64 y2, .int .i64 y3, .int .i64 y4, .int .i64 y5] 25)
  go_wp2_with fail
  refine (unhide HE _).mono ?_
  rintro e w5 ⟨rfl, hb⟩
  replace HB := hide ((unhide HB).step hb)
  clear hb
  have HW := hide (unhide HB).below
  cases b <;> (go_wp2; go_ret; exact ⟨rfl, unhide HW⟩)

end Go.Proofs.Ytmgcpllkielpkaa
