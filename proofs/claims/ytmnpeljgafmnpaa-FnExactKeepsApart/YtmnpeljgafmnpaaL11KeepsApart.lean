/- The law of KeepsApart, walked. Written by wip/mk11.py. -/
import Derived.Test.YtmnpeljgafmnpaaBxG
import Derived.Test.YtmnpeljgafmnpaaFlatX
namespace Go.Proofs.Ytmnpeljgafmnpaa
open Go.RowKit

set_option maxRecDepth 10000 in
set_option maxHeartbeats 6400000 in
theorem lawKeepsApart_any (n : ByteArray) (wt cl : Int) (co : Bool) (fr to : Int) (x y z : Int) (n' : ByteArray) (wt' cl' : Int) (co' : Bool) (fr' to' : Int) (x' y' z' : Int) (w : World) (hs : n.size ≤ maxLen) (hs' : n'.size ≤ maxLen) : Calls Try.prog 9 #[vBox n wt cl co fr to, v3 (x, y, z), vBox n' wt' cl' co' fr' to', v3 (x', y', z')] w fun e w' => e = .returned (.bool true) ∧ Below w.heap.size w w' := by
  have HZA := hide fun V => szBox_any n wt cl co fr to 1048576 V (by omega) (by omega) hs
  have HZB := hide fun V l h0 h1 => szBox_any n' wt' cl' co' fr' to' l V h0 h1 hs'
  have HTA := hide fun V => toBox_any n wt cl co fr to V
  have HTB := hide fun V => toBox_any n' wt' cl' co' fr' to' V
  have HTS := hide fun V => toSpot_any x y z V
  have HTT := hide fun V => toSpot_any x' y' z' V
  have QSP := hide fun V => specKeepsApart_any n wt cl co fr to x y z n' wt' cl' co' fr' to' x' y' z' V
  have QIM := hide fun V => implKeepsApart_any n wt cl co fr to x y z n' wt' cl' co' fr' to' x' y' z' V
  generalize keepB (boxB n wt cl fr to) (boxB n' wt' cl' fr' to') cl cl' x y z x' y' z' = R at *
  unfold vBox v3 at *
  obtain ⟨W, eW⟩ : ∃ W, W = ((((w.alloc (.cells #[.string n, .int .i64 wt, .int .i64 cl, .bool co, .int .i64 fr, .int .i64 to] 35)).alloc (.cells #[.int .i64 x, .int .i64 y, .int .i64 z] 43)).alloc (.cells #[.string n', .int .i64 wt', .int .i64 cl', .bool co', .int .i64 fr', .int .i64 to'] 35)).alloc (.cells #[.int .i64 x', .int .i64 y', .int .i64 z'] 43)) := ⟨_, rfl⟩
  have HW : Hid (Below w.heap.size w W) := by show Below _ _ _; rw [eW]; exact Below.step (Below.step (Below.step (Below.alloc1 _ _) (Below.alloc1 _ _)) (Below.alloc1 _ _)) (Below.alloc1 _ _)
  have HA : Hid (OwnV W (w.heap.size) [.string n, .int .i64 wt, .int .i64 cl, .bool co, .int .i64 fr, .int .i64 to]) := by
    show OwnV _ _ _
    rw [eW]
    have h := ownV_alloc w #[.string n, .int .i64 wt, .int .i64 cl, .bool co, .int .i64 fr, .int .i64 to] 35
    exact OwnV.alloc (OwnV.alloc (OwnV.alloc (h) _) _) _
  have HS : Hid (OwnV W (w.heap.size + 1) [.int .i64 x, .int .i64 y, .int .i64 z]) := by
    show OwnV _ _ _
    rw [eW]
    have h := ownV_alloc (w.alloc (.cells #[.string n, .int .i64 wt, .int .i64 cl, .bool co, .int .i64 fr, .int .i64 to] 35)) #[.int .i64 x, .int .i64 y, .int .i64 z] 43
    simp only [World.size_alloc] at h
    exact OwnV.alloc (OwnV.alloc (h) _) _
  have HB : Hid (OwnV W (w.heap.size + 1 + 1) [.string n', .int .i64 wt', .int .i64 cl', .bool co', .int .i64 fr', .int .i64 to']) := by
    show OwnV _ _ _
    rw [eW]
    have h := ownV_alloc ((w.alloc (.cells #[.string n, .int .i64 wt, .int .i64 cl, .bool co, .int .i64 fr, .int .i64 to] 35)).alloc (.cells #[.int .i64 x, .int .i64 y, .int .i64 z] 43)) #[.string n', .int .i64 wt', .int .i64 cl', .bool co', .int .i64 fr', .int .i64 to'] 35
    simp only [World.size_alloc] at h
    exact OwnV.alloc (h) _
  have HT : Hid (OwnV W (w.heap.size + 1 + 1 + 1) [.int .i64 x', .int .i64 y', .int .i64 z']) := by
    show OwnV _ _ _
    rw [eW]
    have h := ownV_alloc (((w.alloc (.cells #[.string n, .int .i64 wt, .int .i64 cl, .bool co, .int .i64 fr, .int .i64 to] 35)).alloc (.cells #[.int .i64 x, .int .i64 y, .int .i64 z] 43)).alloc (.cells #[.string n', .int .i64 wt', .int .i64 cl', .bool co', .int .i64 fr', .int .i64 to'] 35)) #[.int .i64 x', .int .i64 y', .int .i64 z'] 43
    simp only [World.size_alloc] at h
    exact h
  have a0 := (unhide HA).cell (i := 0) rfl
  have a1 := (unhide HA).cell (i := 1) rfl
  have a2 := (unhide HA).cell (i := 2) rfl
  have a3 := (unhide HA).cell (i := 3) rfl
  have a4 := (unhide HA).cell (i := 4) rfl
  have a5 := (unhide HA).cell (i := 5) rfl
  have s0 := (unhide HS).cell (i := 0) rfl
  have s1 := (unhide HS).cell (i := 1) rfl
  have s2 := (unhide HS).cell (i := 2) rfl
  have b0 := (unhide HB).cell (i := 0) rfl
  have b1 := (unhide HB).cell (i := 1) rfl
  have b2 := (unhide HB).cell (i := 2) rfl
  have b3 := (unhide HB).cell (i := 3) rfl
  have b4 := (unhide HB).cell (i := 4) rfl
  have b5 := (unhide HB).cell (i := 5) rfl
  have t0 := (unhide HT).cell (i := 0) rfl
  have t1 := (unhide HT).cell (i := 1) rfl
  have t2 := (unhide HT).cell (i := 2) rfl
  go_enter Try.func9, Try.ntmps9
  go_wp2_with fail
  rw [← eW]
  clear eW
  refine (unhide HZA _).mono ?_
  rintro e w1 ⟨l, rfl, hl0, hl1, hb⟩
  replace HW := hide (Below.step (unhide HW) hb)
  replace HA := hide ((unhide HA).step hb)
  replace HS := hide ((unhide HS).step hb)
  replace HB := hide ((unhide HB).step hb)
  replace HT := hide ((unhide HT).step hb)
  clear hb
  clear a0 a1 a2 a3 a4 a5 s0 s1 s2 b0 b1 b2 b3 b4 b5 t0 t1 t2
  have a0 := (unhide HA).cell (i := 0) rfl
  have a1 := (unhide HA).cell (i := 1) rfl
  have a2 := (unhide HA).cell (i := 2) rfl
  have a3 := (unhide HA).cell (i := 3) rfl
  have a4 := (unhide HA).cell (i := 4) rfl
  have a5 := (unhide HA).cell (i := 5) rfl
  have s0 := (unhide HS).cell (i := 0) rfl
  have s1 := (unhide HS).cell (i := 1) rfl
  have s2 := (unhide HS).cell (i := 2) rfl
  have b0 := (unhide HB).cell (i := 0) rfl
  have b1 := (unhide HB).cell (i := 1) rfl
  have b2 := (unhide HB).cell (i := 2) rfl
  have b3 := (unhide HB).cell (i := 3) rfl
  have b4 := (unhide HB).cell (i := 4) rfl
  have b5 := (unhide HB).cell (i := 5) rfl
  have t0 := (unhide HT).cell (i := 0) rfl
  have t1 := (unhide HT).cell (i := 1) rfl
  have t2 := (unhide HT).cell (i := 2) rfl
  by_cases hneg : l < 0
  · go_wp2
    go_ret
    exact ⟨rfl, unhide HW⟩
  replace hneg : 0 ≤ l := by omega
  go_wp2_with fail
  refine (unhide HZB _ _ hneg hl1).mono ?_
  rintro e w2 ⟨l', rfl, hl0', hl1', hb⟩
  replace HW := hide (Below.step (unhide HW) hb)
  replace HA := hide ((unhide HA).step hb)
  replace HS := hide ((unhide HS).step hb)
  replace HB := hide ((unhide HB).step hb)
  replace HT := hide ((unhide HT).step hb)
  clear hb
  clear a0 a1 a2 a3 a4 a5 s0 s1 s2 b0 b1 b2 b3 b4 b5 t0 t1 t2
  have a0 := (unhide HA).cell (i := 0) rfl
  have a1 := (unhide HA).cell (i := 1) rfl
  have a2 := (unhide HA).cell (i := 2) rfl
  have a3 := (unhide HA).cell (i := 3) rfl
  have a4 := (unhide HA).cell (i := 4) rfl
  have a5 := (unhide HA).cell (i := 5) rfl
  have s0 := (unhide HS).cell (i := 0) rfl
  have s1 := (unhide HS).cell (i := 1) rfl
  have s2 := (unhide HS).cell (i := 2) rfl
  have b0 := (unhide HB).cell (i := 0) rfl
  have b1 := (unhide HB).cell (i := 1) rfl
  have b2 := (unhide HB).cell (i := 2) rfl
  have b3 := (unhide HB).cell (i := 3) rfl
  have b4 := (unhide HB).cell (i := 4) rfl
  have b5 := (unhide HB).cell (i := 5) rfl
  have t0 := (unhide HT).cell (i := 0) rfl
  have t1 := (unhide HT).cell (i := 1) rfl
  have t2 := (unhide HT).cell (i := 2) rfl
  by_cases hneg' : l' < 0
  · go_wp2
    go_ret
    exact ⟨rfl, unhide HW⟩
  clear HZA HZB
  go_wp2
  have S1 := hide fun X : Gr w2 => unhide HTA X.val
  have S2 := hide fun X : Gr w2 => unhide HTS X.val
  have S3 := hide fun X : Gr w2 => unhide HTB X.val
  have S4 := hide fun X : Gr w2 => unhide HTT X.val
  have S5 := hide fun X : Gr w2 => unhide QSP X.val
  have ra0 := fun X : Gr w2 => gr_cell a0 X
  have ra1 := fun X : Gr w2 => gr_cell a1 X
  have ra2 := fun X : Gr w2 => gr_cell a2 X
  have ra3 := fun X : Gr w2 => gr_cell a3 X
  have ra4 := fun X : Gr w2 => gr_cell a4 X
  have ra5 := fun X : Gr w2 => gr_cell a5 X
  have rs0 := fun X : Gr w2 => gr_cell s0 X
  have rs1 := fun X : Gr w2 => gr_cell s1 X
  have rs2 := fun X : Gr w2 => gr_cell s2 X
  have rb0 := fun X : Gr w2 => gr_cell b0 X
  have rb1 := fun X : Gr w2 => gr_cell b1 X
  have rb2 := fun X : Gr w2 => gr_cell b2 X
  have rb3 := fun X : Gr w2 => gr_cell b3 X
  have rb4 := fun X : Gr w2 => gr_cell b4 X
  have rb5 := fun X : Gr w2 => gr_cell b5 X
  have rt0 := fun X : Gr w2 => gr_cell t0 X
  have rt1 := fun X : Gr w2 => gr_cell t1 X
  have rt2 := fun X : Gr w2 => gr_cell t2 X
  have gsome := gr_some w2
  refine wp_region_grown (by kernel_rfl) (by kernel_rfl) ?_
  repeat (go_big_quiet_step (fail))
  go_big_quiet_want
  go_big_quiet_op
  go_big_quiet_call (exact calls_grown (unhide S1 _))
  repeat (go_big_quiet_step (fail))
  go_big_quiet_want
  go_big_quiet_op
  go_big_quiet_call (exact calls_grown (unhide S2 _))
  repeat (go_big_quiet_step (fail))
  go_big_quiet_want
  go_big_quiet_op
  go_big_quiet_call (exact calls_grown (unhide S3 _))
  repeat (go_big_quiet_step (fail))
  go_big_quiet_want
  go_big_quiet_op
  go_big_quiet_call (exact calls_grown (unhide S4 _))
  repeat (go_big_quiet_step (fail))
  go_big_quiet_want
  go_big_quiet_op
  go_big_quiet_call (exact calls_grown (unhide S5 _))
  repeat (go_big_quiet_step (fail))
  refine wpQuiet_nil ?_
  intro w3 hw1
  obtain ⟨zq, hz⟩ := hw1
  have hb : Below w2.heap.size w2 w3 := hz ▸ zq.ok
  clear hz gsome S1 S2 S3 S4 S5 ra0 ra1 ra2 ra3 ra4 ra5 rs0 rs1 rs2 rb0 rb1 rb2 rb3 rb4 rb5 rt0 rt1 rt2
  replace HW := hide (Below.step (unhide HW) hb)
  replace HA := hide ((unhide HA).step hb)
  replace HS := hide ((unhide HS).step hb)
  replace HB := hide ((unhide HB).step hb)
  replace HT := hide ((unhide HT).step hb)
  clear hb
  clear a0 a1 a2 a3 a4 a5 s0 s1 s2 b0 b1 b2 b3 b4 b5 t0 t1 t2
  have a0 := (unhide HA).cell (i := 0) rfl
  have a1 := (unhide HA).cell (i := 1) rfl
  have a2 := (unhide HA).cell (i := 2) rfl
  have a3 := (unhide HA).cell (i := 3) rfl
  have a4 := (unhide HA).cell (i := 4) rfl
  have a5 := (unhide HA).cell (i := 5) rfl
  have s0 := (unhide HS).cell (i := 0) rfl
  have s1 := (unhide HS).cell (i := 1) rfl
  have s2 := (unhide HS).cell (i := 2) rfl
  have b0 := (unhide HB).cell (i := 0) rfl
  have b1 := (unhide HB).cell (i := 1) rfl
  have b2 := (unhide HB).cell (i := 2) rfl
  have b3 := (unhide HB).cell (i := 3) rfl
  have b4 := (unhide HB).cell (i := 4) rfl
  have b5 := (unhide HB).cell (i := 5) rfl
  have t0 := (unhide HT).cell (i := 0) rfl
  have t1 := (unhide HT).cell (i := 1) rfl
  have t2 := (unhide HT).cell (i := 2) rfl
  go_wp2
  have S1 := hide fun X : Gr w3 => unhide HTA X.val
  have S2 := hide fun X : Gr w3 => unhide HTS X.val
  have S3 := hide fun X : Gr w3 => unhide HTB X.val
  have S4 := hide fun X : Gr w3 => unhide HTT X.val
  have S5 := hide fun X : Gr w3 => unhide QIM X.val
  have ra0 := fun X : Gr w3 => gr_cell a0 X
  have ra1 := fun X : Gr w3 => gr_cell a1 X
  have ra2 := fun X : Gr w3 => gr_cell a2 X
  have ra3 := fun X : Gr w3 => gr_cell a3 X
  have ra4 := fun X : Gr w3 => gr_cell a4 X
  have ra5 := fun X : Gr w3 => gr_cell a5 X
  have rs0 := fun X : Gr w3 => gr_cell s0 X
  have rs1 := fun X : Gr w3 => gr_cell s1 X
  have rs2 := fun X : Gr w3 => gr_cell s2 X
  have rb0 := fun X : Gr w3 => gr_cell b0 X
  have rb1 := fun X : Gr w3 => gr_cell b1 X
  have rb2 := fun X : Gr w3 => gr_cell b2 X
  have rb3 := fun X : Gr w3 => gr_cell b3 X
  have rb4 := fun X : Gr w3 => gr_cell b4 X
  have rb5 := fun X : Gr w3 => gr_cell b5 X
  have rt0 := fun X : Gr w3 => gr_cell t0 X
  have rt1 := fun X : Gr w3 => gr_cell t1 X
  have rt2 := fun X : Gr w3 => gr_cell t2 X
  have gsome := gr_some w3
  refine wp_region_grown (by kernel_rfl) (by kernel_rfl) ?_
  repeat (go_big_quiet_step (fail))
  go_big_quiet_want
  go_big_quiet_op
  go_big_quiet_call (exact calls_grown (unhide S1 _))
  repeat (go_big_quiet_step (fail))
  go_big_quiet_want
  go_big_quiet_op
  go_big_quiet_call (exact calls_grown (unhide S2 _))
  repeat (go_big_quiet_step (fail))
  go_big_quiet_want
  go_big_quiet_op
  go_big_quiet_call (exact calls_grown (unhide S3 _))
  repeat (go_big_quiet_step (fail))
  go_big_quiet_want
  go_big_quiet_op
  go_big_quiet_call (exact calls_grown (unhide S4 _))
  repeat (go_big_quiet_step (fail))
  go_big_quiet_want
  go_big_quiet_op
  go_big_quiet_call (exact calls_grown (unhide S5 _))
  repeat (go_big_quiet_step (fail))
  refine wpQuiet_nil ?_
  intro w4 hw1
  obtain ⟨zq, hz⟩ := hw1
  have hb : Below w3.heap.size w3 w4 := hz ▸ zq.ok
  clear hz gsome S1 S2 S3 S4 S5 ra0 ra1 ra2 ra3 ra4 ra5 rs0 rs1 rs2 rb0 rb1 rb2 rb3 rb4 rb5 rt0 rt1 rt2
  replace HW := hide (Below.step (unhide HW) hb)
  replace HA := hide ((unhide HA).step hb)
  replace HS := hide ((unhide HS).step hb)
  replace HB := hide ((unhide HB).step hb)
  replace HT := hide ((unhide HT).step hb)
  clear hb
  clear a0 a1 a2 a3 a4 a5 s0 s1 s2 b0 b1 b2 b3 b4 b5 t0 t1 t2
  have a0 := (unhide HA).cell (i := 0) rfl
  have a1 := (unhide HA).cell (i := 1) rfl
  have a2 := (unhide HA).cell (i := 2) rfl
  have a3 := (unhide HA).cell (i := 3) rfl
  have a4 := (unhide HA).cell (i := 4) rfl
  have a5 := (unhide HA).cell (i := 5) rfl
  have s0 := (unhide HS).cell (i := 0) rfl
  have s1 := (unhide HS).cell (i := 1) rfl
  have s2 := (unhide HS).cell (i := 2) rfl
  have b0 := (unhide HB).cell (i := 0) rfl
  have b1 := (unhide HB).cell (i := 1) rfl
  have b2 := (unhide HB).cell (i := 2) rfl
  have b3 := (unhide HB).cell (i := 3) rfl
  have b4 := (unhide HB).cell (i := 4) rfl
  have b5 := (unhide HB).cell (i := 5) rfl
  have t0 := (unhide HT).cell (i := 0) rfl
  have t1 := (unhide HT).cell (i := 1) rfl
  have t2 := (unhide HT).cell (i := 2) rfl
  clear HTA HTB HTS HTT QSP QIM
  cases R <;> (go_wp2; go_ret; exact ⟨rfl, unhide HW⟩)

end Go.Proofs.Ytmnpeljgafmnpaa
