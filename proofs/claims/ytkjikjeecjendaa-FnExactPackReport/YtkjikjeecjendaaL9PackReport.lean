/- The law of PackReport, walked. Written by wip/mk9.py. -/
import Derived.Test.YtkjikjeecjendaaFmI
import Derived.Test.YtkjikjeecjendaaRgI
namespace Go.Proofs.Ytkjikjeecjendaa
open Go.RowKit

theorem packF_len (ax ay au av ak ad : Int) : (packF ax ay au av ak ad).length ≤ 1048576 := by
  unfold packF
  split
  · rw [packed_len]; omega
  · simp

set_option maxRecDepth 10000 in
set_option maxHeartbeats 3200000 in
theorem lawPackReport_any (ax ay au av ak ad : Int) (w : World) : Calls Try.prog 6 #[vReport ax ay au av ak ad] w fun e w' => e = .returned (.bool true) ∧ Below w.heap.size w w' := by
  have HO := hide (ownV_alloc w #[.int .i64 ax, .int .i64 ay, .int .i64 au, .int .i64 av, .int .i64 ak, .int .i64 ad] 49)
  have HW := hide (Below.alloc1 w (.cells #[.int .i64 ax, .int .i64 ay, .int .i64 au, .int .i64 av, .int .i64 ak, .int .i64 ad] 49))
  have HT := hide fun W => toReport_any ax ay au av ak ad W
  have HS := hide fun W => specPackReport_any ax ay au av ak ad W
  have HI := hide fun W => implPackReport_any ax ay au av ak ad W
  have hMl := packF_len ax ay au av ak ad
  generalize packF ax ay au av ak ad = M at *
  generalize repB ax ay au av ak ad = V at *
  unfold vReport at HT HS HI ⊢
  go_enter Try.func6, Try.ntmps6
  have hq := unhide HO
  have c0 := hq.cell (i := 0) rfl
  have c1 := hq.cell (i := 1) rfl
  have c2 := hq.cell (i := 2) rfl
  have c3 := hq.cell (i := 3) rfl
  have c4 := hq.cell (i := 4) rfl
  have c5 := hq.cell (i := 5) rfl
  clear hq
  go_wp2_with fail
  refine (unhide HT _).mono ?_
  rintro e w1 ⟨rfl, hb⟩
  replace HW := hide (Below.step (unhide HW) hb)
  replace HO := hide ((unhide HO).step hb)
  clear hb c0 c1 c2 c3 c4 c5
  go_wp2_with fail
  refine (unhide HS _).mono ?_
  rintro e w2 ⟨a1, m1, p1, rfl, ho, hb⟩
  replace HW := hide (Below.step (unhide HW) hb)
  replace HO := hide ((unhide HO).step hb)
  have HSP := hide ho.intsIn
  clear ho hb HS
  have hq := unhide HO
  have c0 := hq.cell (i := 0) rfl
  have c1 := hq.cell (i := 1) rfl
  have c2 := hq.cell (i := 2) rfl
  have c3 := hq.cell (i := 3) rfl
  have c4 := hq.cell (i := 4) rfl
  have c5 := hq.cell (i := 5) rfl
  clear hq
  go_wp2_with fail
  refine (unhide HT _).mono ?_
  rintro e w3 ⟨rfl, hb⟩
  replace HW := hide (Below.step (unhide HW) hb)
  replace HO := hide ((unhide HO).step hb)
  replace HSP := hide ((unhide HSP).below hb)
  clear hb c0 c1 c2 c3 c4 c5
  have hsz := (unhide HW).size
  have hlt := (unhide HO).lt
  have HZ := hide (Below.refl w3.heap.size w3)
  go_wp2_with fail
  refine (unhide HI _).mono ?_
  rintro e w4 ⟨a2, m2, p2, rfl, ho, hb⟩
  replace HW := hide (Below.step (unhide HW) hb)
  replace HO := hide ((unhide HO).step hb)
  replace HZ := hide (Below.step (unhide HZ) hb)
  have HG := hide ho.upto
  clear ho hb
  go_wp2_with fail
  refine (eqByteS_o _ _ M _ (unhide HG).inn ((unhide HSP).below (unhide HZ))).mono ?_
  rintro e w5 ⟨rfl, hb⟩
  replace HW := hide (Below.step (unhide HW) hb)
  replace HO := hide ((unhide HO).step hb)
  replace HZ := hide (Below.step (unhide HZ) hb)
  replace HG := hide ((unhide HG).below hb)
  clear hb
  have hVV : (V != V) = false := by cases V <;> rfl
  go_wp2_with fail
  refine (markByteS_v _ _ _ _ _ M _ (unhide HG) hMl).mono ?_
  rintro e w6 ⟨rfl, hk, hG⟩
  replace HW := hide ((unhide HW).trans (hk.below (B := w.heap.size) (unhide HW).size (fun b e => by omega)))
  replace HO := hide ((unhide HO).kept hk (fun e => by omega))
  replace HZ := hide ((unhide HZ).trans (hk.below (B := w3.heap.size) (unhide HZ).size (fun b e => e.1)))
  replace HG := hide hG
  clear hk hG
  go_wp2_with fail
  refine (heldByteS_v _ M _ (unhide HG).inn hMl).mono ?_
  rintro e w7 ⟨rfl, hb⟩
  replace HW := hide (Below.step (unhide HW) hb)
  replace HO := hide ((unhide HO).step hb)
  replace HZ := hide (Below.step (unhide HZ) hb)
  replace HG := hide ((unhide HG).below hb)
  clear hb
  have hq := unhide HO
  have c0 := hq.cell (i := 0) rfl
  have c1 := hq.cell (i := 1) rfl
  have c2 := hq.cell (i := 2) rfl
  have c3 := hq.cell (i := 3) rfl
  have c4 := hq.cell (i := 4) rfl
  have c5 := hq.cell (i := 5) rfl
  clear hq
  go_wp2_with fail
  refine (unhide HT _).mono ?_
  rintro e w8 ⟨rfl, hb⟩
  replace HW := hide (Below.step (unhide HW) hb)
  replace HO := hide ((unhide HO).step hb)
  replace HZ := hide (Below.step (unhide HZ) hb)
  replace HG := hide ((unhide HG).below hb)
  clear hb c0 c1 c2 c3 c4 c5
  go_wp2_with fail
  refine (unhide HI _).mono ?_
  rintro e w9 ⟨a3, m3, p3, rfl, ho, hb⟩
  replace HW := hide (Below.step (unhide HW) hb)
  replace HO := hide ((unhide HO).step hb)
  replace HZ := hide (Below.step (unhide HZ) hb)
  replace HG := hide ((unhide HG).below hb)
  have HH := hide ho.intsIn
  clear ho hb
  go_wp2_with fail
  refine (eqByteS_o _ _ M _ (unhide HH) ((unhide HSP).below (unhide HZ))).mono ?_
  rintro e w5 ⟨rfl, hb⟩
  replace HW := hide (Below.step (unhide HW) hb)
  replace HO := hide ((unhide HO).step hb)
  replace HZ := hide (Below.step (unhide HZ) hb)
  replace HG := hide ((unhide HG).below hb)
  replace HH := hide ((unhide HH).below hb)
  clear hb
  go_wp2_with fail
  refine (heldByteS_v _ M _ (unhide HG).inn hMl).mono ?_
  rintro e w7 ⟨rfl, hb⟩
  replace HW := hide (Below.step (unhide HW) hb)
  replace HO := hide ((unhide HO).step hb)
  replace HZ := hide (Below.step (unhide HZ) hb)
  replace HG := hide ((unhide HG).below hb)
  replace HH := hide ((unhide HH).below hb)
  clear hb
  go_wp2
  go_ret
  exact ⟨rfl, unhide HW⟩

end Go.Proofs.Ytkjikjeecjendaa
