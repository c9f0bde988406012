/- The program's deeds on twelve tanks. Written by wip/mkcgb.py. -/
import Derived.Test.YtfokocpdngokfaaCgA
import Derived.Test.YtfokocpdngokfaaCpK
import Derived.Deep.RegionWith
import Derived.Deep.RegionHeld3
import Derived.Deep.DeepCutAuto
namespace Go.Proofs.Ytfokocpdngokfaa
open Go.RowKit

theorem results_cell {P : Program} {fn : Func} {tmps : Array Value} {w : World} {a t : Nat} {g : Nat} {v : Value} (hr : fn.results = #[.cell a t]) (ha : tmps.getD a undef = .pointer (some ⟨g, 0, none⟩)) (hl : (loadVar t ⟨g, 0, none⟩).run P w = .ok v w) : (results fn tmps).run P w = .ok v w := by
  rw [Array.getD_eq_getD_getElem?] at ha
  simp [results, hr, ha, asAddr, hl]
/-- What a deed holds: the tanks, the op, the answer's place. -/
structure T3 (w W : World) (g0 g1 g2 : Nat) (M : List CargoTankT) (op : List Value) : Prop where
  below : Below w.heap.size w W
  a : ArrT W g0 M
  o : OwnV W g1 op
  z : ArrT W g2 (pad [])
theorem T3.step {w W W' : World} {g0 g1 g2 : Nat} {M : List CargoTankT} {op : List Value} (h : T3 w W g0 g1 g2 M op) (hb : Below W.heap.size W W') : T3 w W' g0 g1 g2 M op := ⟨Below.step h.below hb, h.a.step hb, h.o.step hb, h.z.step hb⟩
theorem T3.drewN {w W : World} {g0 g1 g2 : Nat} {M : List CargoTankT} {op : List Value} (h : T3 w W g0 g1 g2 M op) (n : Nat) : T3 w (W.drewN n) g0 g1 g2 M op := h.step (below_drewN (Below.refl _ _) n)
theorem T3.put {w W : World} {g0 g1 g2 i : Nat} {M : List CargoTankT} {op : List Value} (h : T3 w W g0 g1 g2 M op) (hg : w.heap.size ≤ g0) (h1 : g1 ≠ g0) (h2 : g2 ≠ g0) (j : Nat) (hj : j < 5) (y : CargoTankT) (v : Value) (hv : eCargoTank y j = v) (hy : ∀ j', j' < 5 → j' ≠ j → eCargoTank y j' = eCargoTank (tkA M i) j') :
    T3 w (W.setCell ⟨g0, i * 5 + j, none⟩ v) g0 g1 g2 (M.set i y) op :=
  ⟨Below.setCell (p := ⟨g0, i * 5 + j, none⟩) h.below hg _, h.a.put hj y v hv hy, h.o.kept (T := fun b => b = g0) ((Kept.refl (fun b => b = g0) W).setCell (p := ⟨g0, i * 5 + j, none⟩) rfl _) (fun e => h1 e), h.z.other h2 _⟩
theorem T3.put0 {w W : World} {g0 g1 g2 i : Nat} {M : List CargoTankT} {op : List Value} (h : T3 w W g0 g1 g2 M op) (hg : w.heap.size ≤ g0) (h1 : g1 ≠ g0) (h2 : g2 ≠ g0) (v : Int) :
    T3 w (W.setCell ⟨g0, i * 5, none⟩ (.int .i64 v)) g0 g1 g2 (M.set i (v, (tkA M i).2)) op := h.put hg h1 h2 0 (by omega) (v, (tkA M i).2) _ rfl (fun j' h1 h2 => by
    have : j' = 1 ∨ j' = 2 ∨ j' = 3 ∨ j' = 4 := by omega
    rcases this with rfl | rfl | rfl | rfl <;> rfl)
theorem T3.put4 {w W : World} {g0 g1 g2 i : Nat} {M : List CargoTankT} {op : List Value} (h : T3 w W g0 g1 g2 M op) (hg : w.heap.size ≤ g0) (h1 : g1 ≠ g0) (h2 : g2 ≠ g0) {x0 x1 x2 x3 x4 : Int} (e : tkA M i = (x0, x1, x2, x3, x4)) (v : Int) :
    T3 w (W.setCell ⟨g0, i * 5 + 4, none⟩ (.int .i64 v)) g0 g1 g2 (M.set i (x0, x1, x2, x3, v)) op := h.put hg h1 h2 4 (by omega) (x0, x1, x2, x3, v) _ rfl (fun j' h1 h2 => by
    rw [e]
    have : j' = 0 ∨ j' = 1 ∨ j' = 2 ∨ j' = 3 := by omega
    rcases this with rfl | rfl | rfl | rfl <;> rfl)
theorem T3.put5 {w W : World} {g0 g1 g2 i : Nat} {M : List CargoTankT} {op : List Value} (h : T3 w W g0 g1 g2 M op) (hi : i < 12) (hg : w.heap.size ≤ g0) (h1 : g1 ≠ g0) (h2 : g2 ≠ g0) (y0 y1 y2 y3 y4 : Int) :
    T3 w (((((W.setCell ⟨g0, i * 5, none⟩ (.int .i64 y0)).setCell ⟨g0, i * 5 + 1, none⟩ (.int .i64 y1)).setCell ⟨g0, i * 5 + 2, none⟩ (.int .i64 y2)).setCell ⟨g0, i * 5 + 3, none⟩ (.int .i64 y3)).setCell ⟨g0, i * 5 + 4, none⟩ (.int .i64 y4)) g0 g1 g2 (M.set i (y0, y1, y2, y3, y4)) op :=
  have hk : Kept (fun b => b = g0) W (((((W.setCell ⟨g0, i * 5, none⟩ (.int .i64 y0)).setCell ⟨g0, i * 5 + 1, none⟩ (.int .i64 y1)).setCell ⟨g0, i * 5 + 2, none⟩ (.int .i64 y2)).setCell ⟨g0, i * 5 + 3, none⟩ (.int .i64 y3)).setCell ⟨g0, i * 5 + 4, none⟩ (.int .i64 y4)) := (((((Kept.refl (fun b => b = g0) W).setCell (p := ⟨g0, i * 5, none⟩) rfl _).setCell (p := ⟨g0, i * 5 + 1, none⟩) rfl _).setCell (p := ⟨g0, i * 5 + 2, none⟩) rfl _).setCell (p := ⟨g0, i * 5 + 3, none⟩) rfl _).setCell (p := ⟨g0, i * 5 + 4, none⟩) rfl _
  ⟨h.below.trans (hk.below (B := w.heap.size) h.below.size (fun b e => by rw [e]; exact hg)), h.a.put5 hi y0 y1 y2 y3 y4, h.o.kept hk (fun e => h1 e), h.z.kept hk (fun e => h2 e)⟩
theorem T3.row {w W : World} {g0 g1 g2 : Nat} {M N : List CargoTankT} {op : List Value} (h : T3 w W g0 g1 g2 M op) (hg : w.heap.size ≤ g0) (h1 : g1 ≠ g0) (h2 : g2 ≠ g0) (hN : N.length = 12) : T3 w (W.setRow g0 (arC N)) g0 g1 g2 N op :=
  ⟨below_setRow' h.below hg _, h.a.row hN, by
    obtain ⟨c, t, hh, hx⟩ := h.o
    refine ⟨c, t, ?_, hx⟩
    unfold World.setRow
    rw [show (W.heap.modify g0 _)[g1]? = W.heap[g1]? from by rw [Array.getElem?_modify, if_neg (fun e => h1 e.symm)]]
    exact hh, h.z.otherRow h2 _⟩
theorem T3.kept {w W W' : World} {g0 g1 g2 : Nat} {M : List CargoTankT} {op : List Value} {T : Nat → Prop} (h : T3 w W g0 g1 g2 M op) (hk : Kept T W W') (hw : ∀ b, T b → w.heap.size ≤ b) (h0 : ¬ T g0) (h1 : ¬ T g1) (h2 : ¬ T g2) : T3 w W' g0 g1 g2 M op :=
  ⟨h.below.trans (hk.below (B := w.heap.size) h.below.size hw), h.a.kept hk h0, h.o.kept hk h1, h.z.kept hk h2⟩
theorem boxes3 (w : World) {M : List CargoTankT} (hM : M.length = 12) (p0 p1 p2 p3 : Value) : ∃ V g0 g1 g2, V = ((w.alloc (.cells (arC M) 76)).alloc (.cells #[p0, p1, p2, p3] 31)).alloc (.cells #[.int .i64 0, .int .i64 0, .int .i64 0, .int .i64 0, .int .i64 0, .int .i64 0, .int .i64 0, .int .i64 0, .int .i64 0, .int .i64 0, .int .i64 0, .int .i64 0, .int .i64 0, .int .i64 0, .int .i64 0, .int .i64 0, .int .i64 0, .int .i64 0, .int .i64 0, .int .i64 0, .int .i64 0, .int .i64 0, .int .i64 0, .int .i64 0, .int .i64 0, .int .i64 0, .int .i64 0, .int .i64 0, .int .i64 0, .int .i64 0, .int .i64 0, .int .i64 0, .int .i64 0, .int .i64 0, .int .i64 0, .int .i64 0, .int .i64 0, .int .i64 0, .int .i64 0, .int .i64 0, .int .i64 0, .int .i64 0, .int .i64 0, .int .i64 0, .int .i64 0, .int .i64 0, .int .i64 0, .int .i64 0, .int .i64 0, .int .i64 0, .int .i64 0, .int .i64 0, .int .i64 0, .int .i64 0, .int .i64 0, .int .i64 0, .int .i64 0, .int .i64 0, .int .i64 0, .int .i64 0] 76) ∧ g0 = w.heap.size ∧ g1 = w.heap.size + 1 ∧ g2 = w.heap.size + 1 + 1 ∧ w.heap.size ≤ g0 ∧ w.heap.size ≤ g2 ∧ g1 ≠ g0 ∧ g2 ≠ g0 ∧ g0 ≠ g1 ∧ g0 ≠ g2 ∧ T3 w V g0 g1 g2 M [p0, p1, p2, p3] := by
  have a1 := arrT_box w hM
  have b1 := Below.alloc1 w (.cells (arC M) 76)
  have b2 := Below.alloc1 (w.alloc (.cells (arC M) 76)) (.cells #[p0, p1, p2, p3] 31)
  have o1 := ownV_alloc (w.alloc (.cells (arC M) 76)) #[p0, p1, p2, p3] 31
  have b3 := Below.alloc1 ((w.alloc (.cells (arC M) 76)).alloc (.cells #[p0, p1, p2, p3] 31)) (.cells #[.int .i64 0, .int .i64 0, .int .i64 0, .int .i64 0, .int .i64 0, .int .i64 0, .int .i64 0, .int .i64 0, .int .i64 0, .int .i64 0, .int .i64 0, .int .i64 0, .int .i64 0, .int .i64 0, .int .i64 0, .int .i64 0, .int .i64 0, .int .i64 0, .int .i64 0, .int .i64 0, .int .i64 0, .int .i64 0, .int .i64 0, .int .i64 0, .int .i64 0, .int .i64 0, .int .i64 0, .int .i64 0, .int .i64 0, .int .i64 0, .int .i64 0, .int .i64 0, .int .i64 0, .int .i64 0, .int .i64 0, .int .i64 0, .int .i64 0, .int .i64 0, .int .i64 0, .int .i64 0, .int .i64 0, .int .i64 0, .int .i64 0, .int .i64 0, .int .i64 0, .int .i64 0, .int .i64 0, .int .i64 0, .int .i64 0, .int .i64 0, .int .i64 0, .int .i64 0, .int .i64 0, .int .i64 0, .int .i64 0, .int .i64 0, .int .i64 0, .int .i64 0, .int .i64 0, .int .i64 0] 76)
  have z1 := arrT_zero ((w.alloc (.cells (arC M) 76)).alloc (.cells #[p0, p1, p2, p3] 31))
  refine ⟨_, _, _, _, rfl, rfl, rfl, rfl, by omega, by omega, by omega, by omega, by omega, by omega, Below.step (Below.step b1 b2) b3, (a1.step b2).step b3, ?_, ?_⟩
  · simp only [World.size_alloc] at o1
    exact o1.step b3
  · simpa only [World.size_alloc] using z1

set_option maxRecDepth 10000 in
set_option maxHeartbeats 4000000 in
theorem thinned_any (x0 x1 x2 x3 x4 p q : Int) (w : World) (h30 : 0 ≤ x3) (h31 : x3 ≤ 1000) (h40 : 0 ≤ x4) (h41 : x4 ≤ 1000) (hp0 : 0 ≤ p) (hp1 : p ≤ 200000) (hq0 : 1 ≤ q) (hq1 : q ≤ 300000) :
    Calls Try.prog 74 #[vCargoTank x0 x1 x2 x3 x4, .int .i64 p, .int .i64 q] w fun e w' => e = .returned (vCargoTank x0 x1 x2 (x3 * p / q) (x4 * p / q)) ∧ Below w.heap.size w w' := by
  have a0 : 0 ≤ x3 * p := Int.mul_nonneg h30 hp0
  have a1 : x3 * p ≤ 1000 * 200000 := Int.mul_le_mul h31 hp1 hp0 (by omega)
  have b0 : 0 ≤ x4 * p := Int.mul_nonneg h40 hp0
  have b1 : x4 * p ≤ 1000 * 200000 := Int.mul_le_mul h41 hp1 hp0 (by omega)
  obtain ⟨u, eu⟩ : ∃ u, u = x3 * p := ⟨_, rfl⟩
  obtain ⟨v, ev⟩ : ∃ v, v = x4 * p := ⟨_, rfl⟩
  rw [← eu] at a0 a1 ⊢
  rw [← ev] at b0 b1 ⊢
  have q1 : IntKind.i64.wrap (x3 * p) = u := by rw [← eu, IntKind.wrap_i64]; omega
  have q2 : IntKind.i64.wrap (x4 * p) = v := by rw [← ev, IntKind.wrap_i64]; omega
  obtain ⟨r, er⟩ : ∃ r, r = u / q := ⟨_, rfl⟩
  obtain ⟨s, es⟩ : ∃ s, s = v / q := ⟨_, rfl⟩
  rw [← er, ← es]
  have r0 : 0 ≤ r := by rw [er]; exact Int.ediv_nonneg a0 (by omega)
  have s0 : 0 ≤ s := by rw [es]; exact Int.ediv_nonneg b0 (by omega)
  have r1 : r ≤ u := by rw [er]; exact Int.ediv_le_self _ a0
  have s1 : s ≤ v := by rw [es]; exact Int.ediv_le_self _ b0
  have q3 : u.tdiv q = r := by rw [Int.tdiv_eq_ediv_of_nonneg a0, er]
  have q4 : v.tdiv q = s := by rw [Int.tdiv_eq_ediv_of_nonneg b0, es]
  have q5 : u / q = r := er.symm
  have q6 : v / q = s := es.symm
  have q7 : q ≠ 0 := by omega
  have q8 : IntKind.i64.wrap r = r := by rw [IntKind.wrap_i64]; omega
  have q9 : IntKind.i64.wrap s = s := by rw [IntKind.wrap_i64]; omega
  clear eu ev er es
  unfold vCargoTank
  go_enter Try.func74, Try.ntmps74
  go_wp2
  refine bodyPost_ret (v := vCargoTank x0 x1 x2 r s) (by simp [results, Try.results74, go_sem, vCargoTank]) rfl ⟨rfl, ((Below.refl _ _).alloc (Nat.le_refl _) _).alloc (by simp) _⟩


set_option maxRecDepth 100000 in
set_option maxHeartbeats 4000000 in
theorem filled_any (M : List CargoTankT) (A : Nat) (k b m : Int) (w : World) (hM : M.length = 12) (hA : A < 12) (hx : tkMid (tkA M A)) (hm1 : 1 ≤ m) (hm2 : m ≤ 100000) :
    Calls Try.prog 63 #[.agg (arC M), vCargoOp k (A : Int) b m] w fun e w' => e = .returned (.agg (arC (M.set A (inT (tkA M A) m)))) ∧ Below w.heap.size w w' := by
  obtain ⟨x0, x1, x2, x3, x4, ex⟩ : ∃ x0 x1 x2 x3 x4, tkA M A = (x0, x1, x2, x3, x4) := ⟨_, _, _, _, _, rfl⟩
  rw [ex] at hx ⊢
  have EX := hide ex
  clear ex
  obtain ⟨V, g0, g1, g2, eV, e0, e1, e2, hB0, hB2, h10, h20, h01, h02, hT⟩ := boxes3 w hM (.int .i64 k) (.int .i64 (A : Int)) (.int .i64 b) (.int .i64 m)
  have HT := hide hT
  have hAi : (A : Int) < 12 := by omega
  unfold vCargoOp
  go_enter Try.func63, Try.ntmps63
  go_upto_region 1 with (fail)
  rw [← eV, ← e2, ← e1, ← e0]
  clear eV e2 e1 e0 hT
  have c0 := (unhide HT).o.cell (i := 0) rfl
  have c1 := (unhide HT).o.cell (i := 1) rfl
  have c2 := (unhide HT).o.cell (i := 2) rfl
  have c3 := (unhide HT).o.cell (i := 3) rfl
  obtain ⟨t0, t1, t2, t3, t4⟩ := (unhide HT).a.cells hA (unhide EX)
  have f0 := (unhide HT).a.frozen (A * 5)
  have f1 := (unhide HT).a.frozen (A * 5 + 1)
  have f2 := (unhide HT).a.frozen (A * 5 + 2)
  have f3 := (unhide HT).a.frozen (A * 5 + 3)
  have f4 := (unhide HT).a.frozen (A * 5 + 4)
  unfold tkMid at hx
  dsimp only at hx
  obtain ⟨hx0, hx1, -⟩ := hx
  go_cut [] (fun wx => Hid (T3 w wx g0 g1 g2 (M.set A (inT (x0, x1, x2, x3, x4) m)) [.int .i64 k, .int .i64 (A : Int), .int .i64 b, .int .i64 m]))
  case first =>
    go_region
    all_goals
      go_wp2
      go_meet
      have h1 := ((unhide HT).drewN 1).put0 (i := A) hB0 h10 h20 (x0 + m)
      rw [unhide EX] at h1
      exact h1
  case rest =>
  have HT1 := hcut
  have hN : (M.set A (inT (x0, x1, x2, x3, x4) m)).length = 12 := by simp only [List.length_set]; exact hM
  clear HT hcut
  try clear c0 c1 c2 c3 t0 t1 t2 t3 t4 f0 f1 f2 f3 f4
  go_upto_region 2 with (fail)
  go_step
  refine wpList_loadW rfl _ _ rfl ⟨g0, 0, none⟩ rfl _ (unhide HT1).a.load ?_
  refine wpList_storeW rfl _ _ _ rfl ⟨g2, 0, none⟩ rfl _ rfl ((unhide HT1).z.store hN) ?_
  have hld := ((unhide HT1).z.row hN).load
  go_wp2
  refine bodyPost_ret (v := .agg (arC (M.set A (inT (x0, x1, x2, x3, x4) m)))) (results_cell Try.results63 rfl hld) rfl ⟨rfl, below_setRow' (unhide HT1).below hB2 _⟩

end Go.Proofs.Ytfokocpdngokfaa
