/- Moved, the program's and the specification's. Written by wip/mkrr8.py. -/
import Derived.Test.YtcljgaofpeaplaaRrE
namespace Go.Proofs.Ytcljgaofpeaplaa
open Go.RowKit

def movB (ax ay au av ak ad m : Int) : Bool := shipB ax ay au av ak ad && (inB m 0 100 && shipB (ax + au * m) (ay + av * m) au av ak ad)
def movV (ax ay au av ak ad m : Int) : Value := bif movB ax ay au av ak ad m then vShip (ax + au * m) (ay + av * m) au av ak ad else vShip 0 0 0 0 0 0

set_option maxRecDepth 10000 in
set_option maxHeartbeats 6400000 in
theorem implMoved_any (ax ay au av ak ad m : Int) (w : World) : Calls Try.prog 12 #[vShip ax ay au av ak ad, .int .i64 m] w fun e w' => e = .returned (.tuple #[movV ax ay au av ak ad m, .bool (movB ax ay au av ak ad m)]) ∧ Below w.heap.size w w' := by
  have HB := hide (bk_two w #[.int .i64 ax, .int .i64 ay, .int .i64 au, .int .i64 av, .int .i64 ak, .int .i64 ad] #[.int .i64 0, .int .i64 0, .int .i64 0, .int .i64 0, .int .i64 0, .int .i64 0] 25 25)
  have HS1 := hide fun W => implShipOk_any ax ay au av ak ad W
  unfold vShip at HS1 ⊢
  go_enter Try.func12, Try.ntmps12
  go_wp2_with fail
  refine (unhide HS1 _).mono ?_
  rintro e w1 ⟨rfl, hb⟩
  replace HB := hide ((unhide HB).step hb)
  clear hb HS1
  cases h1 : shipB ax ay au av ak ad
  · have HN : Hid (movB ax ay au av ak ad m = false) := by show _ = _; unfold movB; rw [h1]; rfl
    clear h1
    have hq := (unhide HB).ownV (k := 1) rfl
    have d0 := hq.cell (i := 0) rfl
    have d1 := hq.cell (i := 1) rfl
    have d2 := hq.cell (i := 2) rfl
    have d3 := hq.cell (i := 3) rfl
    have d4 := hq.cell (i := 4) rfl
    have d5 := hq.cell (i := 5) rfl
    have df0 := hq.frozen 0
    have df1 := hq.frozen 1
    have df2 := hq.frozen 2
    have df3 := hq.frozen 3
    have df4 := hq.frozen 4
    have df5 := hq.frozen 5
    clear hq
    have HW := hide ((((((((unhide HB).set (k := 1) (g := w.heap.size + 1) (vs := [.int .i64 0, .int .i64 0, .int .i64 0, .int .i64 0, .int .i64 0, .int .i64 0]) rfl 0 (.int .i64 0) (by simp)).set (k := 1) (g := w.heap.size + 1) (vs := [.int .i64 0, .int .i64 0, .int .i64 0, .int .i64 0, .int .i64 0, .int .i64 0]) (by simp) 1 (.int .i64 0) (by simp)).set (k := 1) (g := w.heap.size + 1) (vs := [.int .i64 0, .int .i64 0, .int .i64 0, .int .i64 0, .int .i64 0, .int .i64 0]) (by simp) 2 (.int .i64 0) (by simp)).set (k := 1) (g := w.heap.size + 1) (vs := [.int .i64 0, .int .i64 0, .int .i64 0, .int .i64 0, .int .i64 0, .int .i64 0]) (by simp) 3 (.int .i64 0) (by simp)).set (k := 1) (g := w.heap.size + 1) (vs := [.int .i64 0, .int .i64 0, .int .i64 0, .int .i64 0, .int .i64 0, .int .i64 0]) (by simp) 4 (.int .i64 0) (by simp)).set (k := 1) (g := w.heap.size + 1) (vs := [.int .i64 0, .int .i64 0, .int .i64 0, .int .i64 0, .int .i64 0, .int .i64 0]) (by simp) 5 (.int .i64 0) (by simp))).below
    go_wp2
    refine bodyPost_ret (v := .tuple #[vShip 0 0 0 0 0 0, .bool false]) (by simp [results, Try.results12, go_sem, vShip, d0, d1, d2, d3, d4, d5]) rfl ⟨by rw [movV, unhide HN]; rfl, unhide HW⟩
  cases h2 : inB m 0 100
  · have HN : Hid (movB ax ay au av ak ad m = false) := by show _ = _; unfold movB; rw [h1, h2]; rfl
    clear h1
    have hq := (unhide HB).ownV (k := 1) rfl
    have d0 := hq.cell (i := 0) rfl
    have d1 := hq.cell (i := 1) rfl
    have d2 := hq.cell (i := 2) rfl
    have d3 := hq.cell (i := 3) rfl
    have d4 := hq.cell (i := 4) rfl
    have d5 := hq.cell (i := 5) rfl
    have df0 := hq.frozen 0
    have df1 := hq.frozen 1
    have df2 := hq.frozen 2
    have df3 := hq.frozen 3
    have df4 := hq.frozen 4
    have df5 := hq.frozen 5
    clear hq
    have HW := hide ((((((((unhide HB).set (k := 1) (g := w.heap.size + 1) (vs := [.int .i64 0, .int .i64 0, .int .i64 0, .int .i64 0, .int .i64 0, .int .i64 0]) rfl 0 (.int .i64 0) (by simp)).set (k := 1) (g := w.heap.size + 1) (vs := [.int .i64 0, .int .i64 0, .int .i64 0, .int .i64 0, .int .i64 0, .int .i64 0]) (by simp) 1 (.int .i64 0) (by simp)).set (k := 1) (g := w.heap.size + 1) (vs := [.int .i64 0, .int .i64 0, .int .i64 0, .int .i64 0, .int .i64 0, .int .i64 0]) (by simp) 2 (.int .i64 0) (by simp)).set (k := 1) (g := w.heap.size + 1) (vs := [.int .i64 0, .int .i64 0, .int .i64 0, .int .i64 0, .int .i64 0, .int .i64 0]) (by simp) 3 (.int .i64 0) (by simp)).set (k := 1) (g := w.heap.size + 1) (vs := [.int .i64 0, .int .i64 0, .int .i64 0, .int .i64 0, .int .i64 0, .int .i64 0]) (by simp) 4 (.int .i64 0) (by simp)).set (k := 1) (g := w.heap.size + 1) (vs := [.int .i64 0, .int .i64 0, .int .i64 0, .int .i64 0, .int .i64 0, .int .i64 0]) (by simp) 5 (.int .i64 0) (by simp))).below
    go_wp2_with (go_at_call 25; refine (within_any _ _ _ _).mono ?_; rintro e w' ⟨rfl, h9⟩; have h8 := h9.symm; subst h8; clear h9)
    refine bodyPost_ret (v := .tuple #[vShip 0 0 0 0 0 0, .bool false]) (by simp [results, Try.results12, go_sem, vShip, d0, d1, d2, d3, d4, d5]) rfl ⟨by rw [movV, unhide HN]; rfl, unhide HW⟩
  obtain ⟨ba0, ba1, ba2, ba3, ba4, ba5, ba6, ba7⟩ := shipB_bd h1
  obtain ⟨m0, m1⟩ := inB_true h2
  have n1 := natMul (show au.natAbs ≤ 1000 by omega) (show m.natAbs ≤ 100 by omega)
  have n2 := natMul (show av.natAbs ≤ 1000 by omega) (show m.natAbs ≤ 100 by omega)
  obtain ⟨s, es⟩ : ∃ s, s = au * m := ⟨_, rfl⟩
  obtain ⟨t, et⟩ : ∃ s, s = av * m := ⟨_, rfl⟩
  rw [← es] at n1
  rw [← et] at n2
  have s0 : -100000 ≤ s := by omega
  have s1 : s ≤ 100000 := by omega
  have t0 : -100000 ≤ t := by omega
  have t1 : t ≤ 100000 := by omega
  have q1 : IntKind.i64.wrap (au * m) = s := by rw [← es, IntKind.wrap_i64]; omega
  have q2 : IntKind.i64.wrap (av * m) = t := by rw [← et, IntKind.wrap_i64]; omega
  have HM : Hid (movB ax ay au av ak ad m = shipB (ax + s) (ay + t) au av ak ad) := by show _ = _; unfold movB; rw [h1, h2, es, et]; rfl
  have HMV : Hid (movB ax ay au av ak ad m = true → movV ax ay au av ak ad m = vShip (ax + s) (ay + t) au av ak ad) := by show _ → _; intro h; rw [movV, h, es, et]; rfl
  have HS2 := hide fun W => implShipOk_any (ax + s) (ay + t) au av ak ad W
  unfold vShip at HS2
  clear es et n1 n2 h1 ba4 ba5 ba6 ba7
  have hq := (unhide HB).ownV (k := 0) rfl
  have c0 := hq.cell (i := 0) rfl
  have c1 := hq.cell (i := 1) rfl
  have c2 := hq.cell (i := 2) rfl
  have c3 := hq.cell (i := 3) rfl
  have c4 := hq.cell (i := 4) rfl
  have c5 := hq.cell (i := 5) rfl
  have cf0 := hq.frozen 0
  have cf1 := hq.frozen 1
  clear hq
  have HC := hide (((unhide HB).set (k := 0) (g := w.heap.size) (vs := [.int .i64 ax, .int .i64 ay, .int .i64 au, .int .i64 av, .int .i64 ak, .int .i64 ad]) rfl 0 (.int .i64 (ax + s)) (by simp)).set (k := 0) (g := w.heap.size) (vs := [.int .i64 (ax + s), .int .i64 ay, .int .i64 au, .int .i64 av, .int .i64 ak, .int .i64 ad]) (by simp) 1 (.int .i64 (ay + t)) (by simp))
  go_wp2_with (go_at_call 25; refine (within_any _ _ _ _).mono ?_; rintro e w' ⟨rfl, h9⟩; have h8 := h9.symm; subst h8; clear h9)
  refine (unhide HS2 _).mono ?_
  rintro e w3 ⟨rfl, hb⟩
  replace HC := hide ((unhide HC).step hb)
  clear hb HS2 HB c0 c1 c2 c3 c4 c5 cf0 cf1 q1 q2
  have HD : Hid (Bk w w3 (E2 w.heap.size [.int .i64 (ax + s), .int .i64 (ay + t), .int .i64 au, .int .i64 av, .int .i64 ak, .int .i64 ad] [.int .i64 0, .int .i64 0, .int .i64 0, .int .i64 0, .int .i64 0, .int .i64 0])) := hide ((unhide HC).congr (fun k => by rcases k with _ | _ | k <;> simp [E2]))
  clear HC
  cases h4 : shipB (ax + s) (ay + t) au av ak ad
  · have HN : Hid (movB ax ay au av ak ad m = false) := (unhide HM).trans h4
    clear h4 HM HMV
    have hq := (unhide HD).ownV (k := 1) rfl
    have d0 := hq.cell (i := 0) rfl
    have d1 := hq.cell (i := 1) rfl
    have d2 := hq.cell (i := 2) rfl
    have d3 := hq.cell (i := 3) rfl
    have d4 := hq.cell (i := 4) rfl
    have d5 := hq.cell (i := 5) rfl
    have df0 := hq.frozen 0
    have df1 := hq.frozen 1
    have df2 := hq.frozen 2
    have df3 := hq.frozen 3
    have df4 := hq.frozen 4
    have df5 := hq.frozen 5
    clear hq
    have HW := hide ((((((((unhide HD).set (k := 1) (g := w.heap.size + 1) (vs := [.int .i64 0, .int .i64 0, .int .i64 0, .int .i64 0, .int .i64 0, .int .i64 0]) rfl 0 (.int .i64 0) (by simp)).set (k := 1) (g := w.heap.size + 1) (vs := [.int .i64 0, .int .i64 0, .int .i64 0, .int .i64 0, .int .i64 0, .int .i64 0]) (by simp) 1 (.int .i64 0) (by simp)).set (k := 1) (g := w.heap.size + 1) (vs := [.int .i64 0, .int .i64 0, .int .i64 0, .int .i64 0, .int .i64 0, .int .i64 0]) (by simp) 2 (.int .i64 0) (by simp)).set (k := 1) (g := w.heap.size + 1) (vs := [.int .i64 0, .int .i64 0, .int .i64 0, .int .i64 0, .int .i64 0, .int .i64 0]) (by simp) 3 (.int .i64 0) (by simp)).set (k := 1) (g := w.heap.size + 1) (vs := [.int .i64 0, .int .i64 0, .int .i64 0, .int .i64 0, .int .i64 0, .int .i64 0]) (by simp) 4 (.int .i64 0) (by simp)).set (k := 1) (g := w.heap.size + 1) (vs := [.int .i64 0, .int .i64 0, .int .i64 0, .int .i64 0, .int .i64 0, .int .i64 0]) (by simp) 5 (.int .i64 0) (by simp))).below
    go_wp2
    refine bodyPost_ret (v := .tuple #[vShip 0 0 0 0 0 0, .bool false]) (by simp [results, Try.results12, go_sem, vShip, d0, d1, d2, d3, d4, d5]) rfl ⟨by rw [movV, unhide HN]; rfl, unhide HW⟩
  have HN : Hid (movB ax ay au av ak ad m = true) := (unhide HM).trans h4
  clear h4 HM
  have hq := (unhide HD).ownV (k := 0) rfl
  have c0 := hq.cell (i := 0) rfl
  have c1 := hq.cell (i := 1) rfl
  have c2 := hq.cell (i := 2) rfl
  have c3 := hq.cell (i := 3) rfl
  have c4 := hq.cell (i := 4) rfl
  have c5 := hq.cell (i := 5) rfl
  clear hq
  have hq := (unhide HD).ownV (k := 1) rfl
  have d0 := hq.cell (i := 0) rfl
  have d1 := hq.cell (i := 1) rfl
  have d2 := hq.cell (i := 2) rfl
  have d3 := hq.cell (i := 3) rfl
  have d4 := hq.cell (i := 4) rfl
  have d5 := hq.cell (i := 5) rfl
  have df0 := hq.frozen 0
  have df1 := hq.frozen 1
  have df2 := hq.frozen 2
  have df3 := hq.frozen 3
  have df4 := hq.frozen 4
  have df5 := hq.frozen 5
  clear hq
  have HW := hide ((((((((unhide HD).set (k := 1) (g := w.heap.size + 1) (vs := [.int .i64 0, .int .i64 0, .int .i64 0, .int .i64 0, .int .i64 0, .int .i64 0]) rfl 0 (.int .i64 (ax + s)) (by simp)).set (k := 1) (g := w.heap.size + 1) (vs := [.int .i64 (ax + s), .int .i64 0, .int .i64 0, .int .i64 0, .int .i64 0, .int .i64 0]) (by simp) 1 (.int .i64 (ay + t)) (by simp)).set (k := 1) (g := w.heap.size + 1) (vs := [.int .i64 (ax + s), .int .i64 (ay + t), .int .i64 0, .int .i64 0, .int .i64 0, .int .i64 0]) (by simp) 2 (.int .i64 au) (by simp)).set (k := 1) (g := w.heap.size + 1) (vs := [.int .i64 (ax + s), .int .i64 (ay + t), .int .i64 au, .int .i64 0, .int .i64 0, .int .i64 0]) (by simp) 3 (.int .i64 av) (by simp)).set (k := 1) (g := w.heap.size + 1) (vs := [.int .i64 (ax + s), .int .i64 (ay + t), .int .i64 au, .int .i64 av, .int .i64 0, .int .i64 0]) (by simp) 4 (.int .i64 ak) (by simp)).set (k := 1) (g := w.heap.size + 1) (vs := [.int .i64 (ax + s), .int .i64 (ay + t), .int .i64 au, .int .i64 av, .int .i64 ak, .int .i64 0]) (by simp) 5 (.int .i64 ad) (by simp))).below
  go_wp2
  refine bodyPost_ret (v := .tuple #[vShip (ax + s) (ay + t) au av ak ad, .bool true]) (by simp [results, Try.results12, go_sem, vShip, d0, d1, d2, d3, d4, d5]) rfl ⟨by rw [unhide HMV (unhide HN), unhide HN], unhide HW⟩

end Go.Proofs.Ytcljgaofpeaplaa
