/- The program's Closest. Written by wip/mkrr9.py. -/
import Derived.Test.YtcljgaofpeaplaaRrE
import Derived.Test.YtcljgaofpeaplaaFlatA
namespace Go.Proofs.Ytcljgaofpeaplaa
open Go.RowKit
/-- What Closest tells of right ships: d = (p, q), v = (r, s). -/
def clZ (p q r s : Int) : Bool := (r == 0 && s == 0) || decide (0 < p * r + q * s)
def clT (p q r s : Int) : I2 := bif clZ p q r s then (0, 1) else lowV (-(p * r + q * s)) (r * r + s * s)
def clF (p q r s : Int) : I2 := bif clZ p q r s then (p * p + q * q, 1) else lowV ((p * s - q * r) * (p * s - q * r)) (r * r + s * s)
def clsB (ax ay au av ak ad cx cy cu cv ck cd : Int) : Bool := shipB ax ay au av ak ad && shipB cx cy cu cv ck cd
def clsT (ax ay au av ak ad cx cy cu cv ck cd : Int) : I2 := bif clsB ax ay au av ak ad cx cy cu cv ck cd then clT (cx - ax) (cy - ay) (cu - au) (cv - av) else (0, 0)
def clsF (ax ay au av ak ad cx cy cu cv ck cd : Int) : I2 := bif clsB ax ay au av ak ad cx cy cu cv ck cd then clF (cx - ax) (cy - ay) (cu - au) (cv - av) else (0, 0)
theorem lowV_one (n : Int) : lowV n 1 = (n, 1) := by simp [lowV]
theorem vv_zero (r s : Int) : (r * r + s * s == 0) = (r == 0 && s == 0) := by
  have h1 := sq_nonneg r
  have h2 := sq_nonneg s
  by_cases h : r * r + s * s = 0
  · have hr : r = 0 := (Int.mul_eq_zero.1 (show r * r = 0 by omega)).elim id id
    have hs : s = 0 := (Int.mul_eq_zero.1 (show s * s = 0 by omega)).elim id id
    rw [hr, hs]
    rfl
  · rw [beq_eq_false_iff_ne.2 h]
    cases hb : (r == 0 && s == 0)
    · rfl
    · simp only [Bool.and_eq_true, beq_iff_eq] at hb
      rw [hb.1, hb.2] at h
      exact absurd rfl h
theorem cl_bd {p q r s : Int} (h1 : p.natAbs ≤ 200000) (h2 : q.natAbs ≤ 200000) (h3 : r.natAbs ≤ 2000) (h4 : s.natAbs ≤ 2000) : (p * s - q * r).natAbs ≤ 800000000 ∧ (p * r + q * s).natAbs ≤ 800000000 ∧ (r * r + s * s).natAbs ≤ 8000000 ∧ (p * p + q * q).natAbs ≤ 80000000000 := by
  have a1 := natMul h1 h4
  have a2 := natMul h2 h3
  have a3 := natMul h1 h3
  have a4 := natMul h2 h4
  have a5 := natMul h3 h3
  have a6 := natMul h4 h4
  have a7 := natMul h1 h1
  have a8 := natMul h2 h2
  omega
/-- Four boxes. -/
def E4 (n : Nat) (A C D G : List Value) : Nat → Option (Nat × List Value)
  | 0 => some (n, A)
  | 1 => some (n + 1, C)
  | 2 => some (n + 1 + 1, D)
  | 3 => some (n + 1 + 1 + 1, G)
  | _ => none
theorem bk_four (w : World) (A C D G : Array Value) (t u x y : TypeId) : Bk w ((((w.alloc (.cells A t)).alloc (.cells C u)).alloc (.cells D x)).alloc (.cells G y)) (E4 w.heap.size A.toList C.toList D.toList G.toList) :=
  (((((bk_nil w).made 0 A t).made 1 C u).made 2 D x).made 3 G y).congr (fun k => by rcases k with _ | _ | _ | _ | k <;> simp [E4])

def ECl3I (ax ay au av ak ad cx cy cu cv ck cd p q r s : Int) (w : World) (L : Nat → Bool) (us : Nat → Value) : Nat → Option (Nat × List Value)
  | 0 => some (w.heap.size, [.int .i64 ax, .int .i64 ay, .int .i64 au, .int .i64 av, .int .i64 ak, .int .i64 ad])
  | 1 => some (w.heap.size + 1, [.int .i64 cx, .int .i64 cy, .int .i64 cu, .int .i64 cv, .int .i64 ck, .int .i64 cd])
  | 2 => some (w.heap.size + 1 + 1, [.int .i64 0, .int .i64 0])
  | 3 => some (w.heap.size + 1 + 1 + 1, [.int .i64 0, .int .i64 0])
  | 4 => if L 8 then some ((gOf (us 7)), (if L 10 then [.int .i64 p, .int .i64 q] else [.int .i64 0, .int .i64 0])) else none
  | 5 => if L 9 then some ((gOf (us 8)), (if L 11 then [.int .i64 r, .int .i64 s] else [.int .i64 0, .int .i64 0])) else none
  | _ => none
def FCl3I (ax ay au av ak ad cx cy cu cv ck cd p q r s : Int) : FL := [(0, 20, vShip cx cy cu cv ck cd), (1, 21, vShip ax ay au av ak ad), (2, 22, vV p q), (3, 23, vShip cx cy cu cv ck cd), (4, 24, vV cu cv), (5, 25, vShip ax ay au av ak ad), (6, 26, vV au av), (7, 27, vV r s)]
def RCl3I (ax ay au av ak ad cx cy cu cv ck cd p q r s : Int) (w : World) (L : Nat → Bool) (us : Nat → Value) (W : World) : Prop :=
  Facts L us (FCl3I ax ay au av ak ad cx cy cu cv ck cd p q r s) ∧ (L 8 = true → us 7 = .pointer (some ⟨gOf (us 7), 0, none⟩)) ∧ (L 9 = true → us 8 = .pointer (some ⟨gOf (us 8), 0, none⟩)) ∧ (L 10 = true → L 8 = true) ∧ (L 11 = true → L 9 = true) ∧ Bk w W (ECl3I ax ay au av ak ad cx cy cu cv ck cd p q r s w L us)
def XCl3I (ax ay au av ak ad cx cy cu cv ck cd p q r s : Int) (w : World) (g7 g8 : Nat) : Nat → Option (Nat × List Value)
  | 0 => some (w.heap.size, [.int .i64 ax, .int .i64 ay, .int .i64 au, .int .i64 av, .int .i64 ak, .int .i64 ad])
  | 1 => some (w.heap.size + 1, [.int .i64 cx, .int .i64 cy, .int .i64 cu, .int .i64 cv, .int .i64 ck, .int .i64 cd])
  | 2 => some (w.heap.size + 1 + 1, [.int .i64 0, .int .i64 0])
  | 3 => some (w.heap.size + 1 + 1 + 1, [.int .i64 0, .int .i64 0])
  | 4 => some (g7, [.int .i64 p, .int .i64 q])
  | 5 => some (g8, [.int .i64 r, .int .i64 s])
  | _ => none
def ECl5I (ax ay au av ak ad cx cy cu cv ck cd p q r s dd : Int) (g7 g8 : Nat) (w : World) (L : Nat → Bool) (_us : Nat → Value) : Nat → Option (Nat × List Value)
  | 0 => some (w.heap.size, [.int .i64 ax, .int .i64 ay, .int .i64 au, .int .i64 av, .int .i64 ak, .int .i64 ad])
  | 1 => some (w.heap.size + 1, [.int .i64 cx, .int .i64 cy, .int .i64 cu, .int .i64 cv, .int .i64 ck, .int .i64 cd])
  | 2 => some (w.heap.size + 1 + 1, (if L 5 then [.int .i64 0, .int .i64 1] else [.int .i64 0, .int .i64 0]))
  | 3 => some (w.heap.size + 1 + 1 + 1, (if L 6 then [.int .i64 dd, .int .i64 1] else [.int .i64 0, .int .i64 0]))
  | 4 => some (g7, [.int .i64 p, .int .i64 q])
  | 5 => some (g8, [.int .i64 r, .int .i64 s])
  | _ => none
def FCl5I (_ax _ay _au _av _ak _ad _cx _cy _cu _cv _ck _cd p q _r _s dd : Int) (_g7 _g8 : Nat) : FL := [(0, 37, vV 0 1), (1, 38, vV p q), (2, 39, vV p q), (3, 40, .int .i64 dd), (4, 41, vV dd 1), (7, 6, .bool true)]
def RCl5I (ax ay au av ak ad cx cy cu cv ck cd p q r s dd : Int) (g7 g8 : Nat) (w : World) (L : Nat → Bool) (us : Nat → Value) (W : World) : Prop :=
  Facts L us (FCl5I ax ay au av ak ad cx cy cu cv ck cd p q r s dd g7 g8) ∧ Bk w W (ECl5I ax ay au av ak ad cx cy cu cv ck cd p q r s dd g7 g8 w L us)
def XCl5I (ax ay au av ak ad cx cy cu cv ck cd p q r s dd : Int) (g7 g8 : Nat) (w : World) : Nat → Option (Nat × List Value)
  | 0 => some (w.heap.size, [.int .i64 ax, .int .i64 ay, .int .i64 au, .int .i64 av, .int .i64 ak, .int .i64 ad])
  | 1 => some (w.heap.size + 1, [.int .i64 cx, .int .i64 cy, .int .i64 cu, .int .i64 cv, .int .i64 ck, .int .i64 cd])
  | 2 => some (w.heap.size + 1 + 1, [.int .i64 0, .int .i64 1])
  | 3 => some (w.heap.size + 1 + 1 + 1, [.int .i64 dd, .int .i64 1])
  | 4 => some (g7, [.int .i64 p, .int .i64 q])
  | 5 => some (g8, [.int .i64 r, .int .i64 s])
  | _ => none
def ECl7I (ax ay au av ak ad cx cy cu cv ck cd p q r s _dv _vv _k _kk ta tb fa fb : Int) (g7 g8 : Nat) (w : World) (L : Nat → Bool) (_us : Nat → Value) : Nat → Option (Nat × List Value)
  | 0 => some (w.heap.size, [.int .i64 ax, .int .i64 ay, .int .i64 au, .int .i64 av, .int .i64 ak, .int .i64 ad])
  | 1 => some (w.heap.size + 1, [.int .i64 cx, .int .i64 cy, .int .i64 cu, .int .i64 cv, .int .i64 ck, .int .i64 cd])
  | 2 => some (w.heap.size + 1 + 1, (if L 15 then [.int .i64 ta, .int .i64 tb] else [.int .i64 0, .int .i64 0]))
  | 3 => some (w.heap.size + 1 + 1 + 1, (if L 16 then [.int .i64 fa, .int .i64 fb] else [.int .i64 0, .int .i64 0]))
  | 4 => some (g7, [.int .i64 p, .int .i64 q])
  | 5 => some (g8, [.int .i64 r, .int .i64 s])
  | _ => none
def FCl7I (_ax _ay _au _av _ak _ad _cx _cy _cu _cv _ck _cd p q r s dv vv k kk ta tb fa fb : Int) (_g7 _g8 : Nat) : FL := [(0, 45, vV p q), (1, 46, vV r s), (2, 47, .int .i64 dv), (3, 48, .int .i64 (-dv)), (4, 49, vV r s), (5, 50, vV r s), (6, 51, .int .i64 vv), (7, 52, vV ta tb), (8, 53, .int .i64 k), (9, 54, .int .i64 k), (10, 55, .int .i64 kk), (11, 56, vV r s), (12, 57, vV r s), (13, 58, .int .i64 vv), (14, 59, vV fa fb), (17, 6, .bool true)]
def RCl7I (ax ay au av ak ad cx cy cu cv ck cd p q r s dv vv k kk ta tb fa fb : Int) (g7 g8 : Nat) (w : World) (L : Nat → Bool) (us : Nat → Value) (W : World) : Prop :=
  Facts L us (FCl7I ax ay au av ak ad cx cy cu cv ck cd p q r s dv vv k kk ta tb fa fb g7 g8) ∧ Bk w W (ECl7I ax ay au av ak ad cx cy cu cv ck cd p q r s dv vv k kk ta tb fa fb g7 g8 w L us)
def XCl7I (ax ay au av ak ad cx cy cu cv ck cd p q r s _dv _vv _k _kk ta tb fa fb : Int) (g7 g8 : Nat) (w : World) : Nat → Option (Nat × List Value)
  | 0 => some (w.heap.size, [.int .i64 ax, .int .i64 ay, .int .i64 au, .int .i64 av, .int .i64 ak, .int .i64 ad])
  | 1 => some (w.heap.size + 1, [.int .i64 cx, .int .i64 cy, .int .i64 cu, .int .i64 cv, .int .i64 ck, .int .i64 cd])
  | 2 => some (w.heap.size + 1 + 1, [.int .i64 ta, .int .i64 tb])
  | 3 => some (w.heap.size + 1 + 1 + 1, [.int .i64 fa, .int .i64 fb])
  | 4 => some (g7, [.int .i64 p, .int .i64 q])
  | 5 => some (g8, [.int .i64 r, .int .i64 s])
  | _ => none
set_option maxRecDepth 10000 in
set_option maxHeartbeats 6400000 in
theorem implClosest_any (ax ay au av ak ad cx cy cu cv ck cd : Int) (w : World) : Calls Try.prog 11 #[vShip ax ay au av ak ad, vShip cx cy cu cv ck cd] w fun e w' => e = .returned (.tuple #[v2 (clsT ax ay au av ak ad cx cy cu cv ck cd), v2 (clsF ax ay au av ak ad cx cy cu cv ck cd), .bool (clsB ax ay au av ak ad cx cy cu cv ck cd)]) ∧ Below w.heap.size w w' := by
  have HB := hide (bk_four w #[.int .i64 ax, .int .i64 ay, .int .i64 au, .int .i64 av, .int .i64 ak, .int .i64 ad] #[.int .i64 cx, .int .i64 cy, .int .i64 cu, .int .i64 cv, .int .i64 ck, .int .i64 cd] #[.int .i64 0, .int .i64 0] #[.int .i64 0, .int .i64 0] 25 25 36 36)
  have HS1 := hide fun W => implShipOk_any ax ay au av ak ad W
  have HS2 := hide fun W => implShipOk_any cx cy cu cv ck cd W
  unfold vShip at HS1 HS2 ⊢
  have c0a : ∀ i v, #[.int .i64 ax, .int .i64 ay, .int .i64 au, .int .i64 av, .int .i64 ak, .int .i64 ad][i]? = some v → (((((w.alloc (.cells #[.int .i64 ax, .int .i64 ay, .int .i64 au, .int .i64 av, .int .i64 ak, .int .i64 ad] 25)).alloc (.cells #[.int .i64 cx, .int .i64 cy, .int .i64 cu, .int .i64 cv, .int .i64 ck, .int .i64 cd] 25)).alloc (.cells #[.int .i64 0, .int .i64 0] 36)).alloc (.cells #[.int .i64 0, .int .i64 0] 36)).cell? ⟨w.heap.size, i, none⟩ = some v) := fun i v hi => ((unhide HB).ownV (k := 0) rfl).cell (by simpa using hi)
  have c0 := c0a 0 _ rfl
  have c1 := c0a 1 _ rfl
  have c2 := c0a 2 _ rfl
  have c3 := c0a 3 _ rfl
  have c4 := c0a 4 _ rfl
  have c5 := c0a 5 _ rfl
  clear c0a
  go_enter Try.func11, Try.ntmps11
  go_wp2_with fail
  refine (unhide HS1 _).mono ?_
  rintro e w1 ⟨rfl, hb⟩
  replace HB := hide ((unhide HB).step hb)
  clear hb HS1 c0 c1 c2 c3 c4 c5
  cases h1 : shipB ax ay au av ak ad
  · have HN : Hid (clsB ax ay au av ak ad cx cy cu cv ck cd = false) := by show _ = _; unfold clsB; rw [h1]; rfl
    clear h1 HS2
    have hq := (unhide HB).ownV (k := 2) rfl
    have d0 := hq.cell (i := 0) rfl
    have d1 := hq.cell (i := 1) rfl
    have df0 := hq.frozen 0
    have df1 := hq.frozen 1
    clear hq
    have hq := (unhide HB).ownV (k := 3) rfl
    have e0 := hq.cell (i := 0) rfl
    have e1 := hq.cell (i := 1) rfl
    have ef0 := hq.frozen 0
    have ef1 := hq.frozen 1
    clear hq
    have HW := hide (((((unhide HB).below.setCell (show w.heap.size ≤ w.heap.size + 1 + 1 by omega) (.int .i64 0) (p := ⟨w.heap.size + 1 + 1, 0, none⟩)).setCell (show w.heap.size ≤ w.heap.size + 1 + 1 by omega) (.int .i64 0) (p := ⟨w.heap.size + 1 + 1, 1, none⟩)).setCell (show w.heap.size ≤ w.heap.size + 1 + 1 + 1 by omega) (.int .i64 0) (p := ⟨w.heap.size + 1 + 1 + 1, 0, none⟩)).setCell (show w.heap.size ≤ w.heap.size + 1 + 1 + 1 by omega) (.int .i64 0) (p := ⟨w.heap.size + 1 + 1 + 1, 1, none⟩))
    go_wp2
    refine bodyPost_ret (v := .tuple #[v2 (0, 0), v2 (0, 0), .bool false]) (by simp [results, Try.results11, go_sem, v2, d0, d1, e0, e1]) rfl ⟨by rw [clsT, clsF, unhide HN]; rfl, unhide HW⟩
  have hq := (unhide HB).ownV (k := 1) rfl
  have c0 := hq.cell (i := 0) rfl
  have c1 := hq.cell (i := 1) rfl
  have c2 := hq.cell (i := 2) rfl
  have c3 := hq.cell (i := 3) rfl
  have c4 := hq.cell (i := 4) rfl
  have c5 := hq.cell (i := 5) rfl
  clear hq
  go_wp2_with fail
  refine (unhide HS2 _).mono ?_
  rintro e w2 ⟨rfl, hb⟩
  replace HB := hide ((unhide HB).step hb)
  clear hb HS2 c0 c1 c2 c3 c4 c5
  cases h2 : shipB cx cy cu cv ck cd
  · have HN : Hid (clsB ax ay au av ak ad cx cy cu cv ck cd = false) := by show _ = _; unfold clsB; rw [h1, h2]; rfl
    clear h1 h2
    have hq := (unhide HB).ownV (k := 2) rfl
    have d0 := hq.cell (i := 0) rfl
    have d1 := hq.cell (i := 1) rfl
    have df0 := hq.frozen 0
    have df1 := hq.frozen 1
    clear hq
    have hq := (unhide HB).ownV (k := 3) rfl
    have e0 := hq.cell (i := 0) rfl
    have e1 := hq.cell (i := 1) rfl
    have ef0 := hq.frozen 0
    have ef1 := hq.frozen 1
    clear hq
    have HW := hide (((((unhide HB).below.setCell (show w.heap.size ≤ w.heap.size + 1 + 1 by omega) (.int .i64 0) (p := ⟨w.heap.size + 1 + 1, 0, none⟩)).setCell (show w.heap.size ≤ w.heap.size + 1 + 1 by omega) (.int .i64 0) (p := ⟨w.heap.size + 1 + 1, 1, none⟩)).setCell (show w.heap.size ≤ w.heap.size + 1 + 1 + 1 by omega) (.int .i64 0) (p := ⟨w.heap.size + 1 + 1 + 1, 0, none⟩)).setCell (show w.heap.size ≤ w.heap.size + 1 + 1 + 1 by omega) (.int .i64 0) (p := ⟨w.heap.size + 1 + 1 + 1, 1, none⟩))
    go_wp2
    refine bodyPost_ret (v := .tuple #[v2 (0, 0), v2 (0, 0), .bool false]) (by simp [results, Try.results11, go_sem, v2, d0, d1, e0, e1]) rfl ⟨by rw [clsT, clsF, unhide HN]; rfl, unhide HW⟩
  obtain ⟨ba0, ba1, ba2, ba3, ba4, ba5, ba6, ba7⟩ := shipB_bd h1
  obtain ⟨bc0, bc1, bc2, bc3, bc4, bc5, bc6, bc7⟩ := shipB_bd h2
  have HBe := hide fun W => implBearing_any cx cy cu cv ck cd ax ay au av ak ad W bc0 bc1 bc2 bc3 ba0 ba1 ba2 ba3
  have HW1 := hide fun W => implWay_any ax ay au av ak ad W
  have HW2 := hide fun W => implWay_any cx cy cu cv ck cd W
  have HLs := hide fun W => implLess_any cu cv au av W (by omega) (by omega) (by omega) (by omega) (by omega) (by omega) (by omega) (by omega)
  obtain ⟨p, ep⟩ : ∃ z, z = cx - ax := ⟨_, rfl⟩
  obtain ⟨q, eq⟩ : ∃ z, z = cy - ay := ⟨_, rfl⟩
  obtain ⟨r, er⟩ : ∃ z, z = cu - au := ⟨_, rfl⟩
  obtain ⟨s, es⟩ : ∃ z, z = cv - av := ⟨_, rfl⟩
  have n1 : p.natAbs ≤ 200000 := by omega
  have n2 : q.natAbs ≤ 200000 := by omega
  have n3 : r.natAbs ≤ 2000 := by omega
  have n4 : s.natAbs ≤ 2000 := by omega
  have HN : Hid (clsB ax ay au av ak ad cx cy cu cv ck cd = true) := by show _ = _; unfold clsB; rw [h1, h2]; rfl
  have HTT : Hid (clsT ax ay au av ak ad cx cy cu cv ck cd = clT p q r s) := by show _ = _; rw [clsT, unhide HN, ep, eq, er, es]; rfl
  have HTF : Hid (clsF ax ay au av ak ad cx cy cu cv ck cd = clF p q r s) := by show _ = _; rw [clsF, unhide HN, ep, eq, er, es]; rfl
  rw [← ep, ← eq] at HBe
  rw [← er, ← es] at HLs
  clear ep eq er es h1 h2 ba0 ba1 ba2 ba3 ba4 ba5 ba6 ba7 bc0 bc1 bc2 bc3 bc4 bc5 bc6 bc7
  obtain ⟨hk, hdv, hvv, hdd⟩ := cl_bd n1 n2 n3 n4
  have n3' := Nat.le_trans n3 (show 2000 ≤ 200000 by decide)
  have n4' := Nat.le_trans n4 (show 2000 ≤ 200000 by decide)
  have HDD := hide fun W => implDot_any p q p q W n1 n2 n1 n2
  have HDV := hide fun W => implDot_any p q r s W n1 n2 n3' n4'
  have HVV := hide fun W => implDot_any r s r s W n3' n4' n3' n4'
  have HCR := hide fun W => implCross_any p q r s W n1 n2 n3' n4'
  have hv0 := sq_nonneg r
  have hv1 := sq_nonneg s
  have hz0 := vv_zero r s
  have HZ : Hid (clZ p q r s = ((r == 0 && s == 0) || decide (0 < p * r + q * s))) := hide rfl
  have HVT : Hid (clT p q r s = bif clZ p q r s then (0, 1) else lowV (-(p * r + q * s)) (r * r + s * s)) := hide rfl
  have HVF : Hid (clF p q r s = bif clZ p q r s then (p * p + q * q, 1) else lowV ((p * s - q * r) * (p * s - q * r)) (r * r + s * s)) := hide rfl
  have hvv0 : 0 ≤ r * r + s * s := by omega
  clear hv0 hv1 n1 n2 n3 n4 n3' n4'
  obtain ⟨k, ek⟩ : ∃ z, z = p * s - q * r := ⟨_, rfl⟩
  rw [← ek] at HCR HVF hk
  clear ek
  obtain ⟨dv, edv⟩ : ∃ z, z = p * r + q * s := ⟨_, rfl⟩
  rw [← edv] at HDV HVT HZ hdv
  clear edv
  obtain ⟨vv, evv⟩ : ∃ z, z = r * r + s * s := ⟨_, rfl⟩
  rw [← evv] at HVV HVT HVF hvv hvv0 hz0
  clear evv
  obtain ⟨dd, edd⟩ : ∃ z, z = p * p + q * q := ⟨_, rfl⟩
  rw [← edd] at HDD HVF hdd
  clear edd
  have hkk := natMul hk hk
  have hkk0 := sq_nonneg k
  obtain ⟨kk, ekk⟩ : ∃ z, z = k * k := ⟨_, rfl⟩
  rw [← ekk] at HVF hkk hkk0
  have q1 : IntKind.i64.wrap (k * k) = kk := by rw [← ekk, IntKind.wrap_i64]; omega
  clear ekk
  have v0 : 0 ≤ vv := hvv0
  have v1 : vv ≤ 8000000 := by omega
  have w0 : -800000000 ≤ dv := by omega
  have w1 : dv ≤ 800000000 := by omega
  have x0 : -80000000000 ≤ dd := by omega
  have x1 : dd ≤ 80000000000 := by omega
  have y0 : 0 ≤ kk := hkk0
  have y1 : kk ≤ 640000000000000000 := by omega
  clear hk hdv hvv hdd hvv0 hkk hkk0
  go_wp2_with fail
  have HB0 : Hid (∀ us, Bk w _ (ECl3I ax ay au av ak ad cx cy cu cv ck cd p q r s w (fun _ => false) us)) := hide (fun us => ((unhide HB)).congr (fun k => by rcases k with _ | _ | _ | _ | _ | _ | k <;> simp [ECl3I, E4]))
  refine wp_region_slots [20, 21, 22, 23, 24, 25, 26, 27, 7, 8] (RCl3I ax ay au av ak ad cx cy cu cv ck cd p q r s w) (by kernel_rfl) (by kernel_rfl) (by decide) (by kernel_rfl) ?_ ?_ ?_
  · intro us
    exact ⟨facts_start us _, fun h => (by cases h), fun h => (by cases h), fun h => (by cases h), fun h => (by cases h), (unhide HB0 us).drew⟩
  · clear HB0
    refine StepsR.cons 1 rfl ?_ ?_
    · intro L us W hi hdep hR Kx hNx
      have hF := hide hR.1
      have f8 := hide hR.2.1
      have f9 := hide hR.2.2.1
      have f10 := hide hR.2.2.2.1
      have f11 := hide hR.2.2.2.2.1
      have hB := hR.2.2.2.2.2
      clear hR
      clear hdep
      have hE : ECl3I ax ay au av ak ad cx cy cu cv ck cd p q r s w L us 1 = some (w.heap.size + 1, [.int .i64 cx, .int .i64 cy, .int .i64 cu, .int .i64 cv, .int .i64 ck, .int .i64 cd]) := by simp [ECl3I]
      have hO := hB.ownV hE
      have c0 := hO.cell (i := 0) rfl
      have c1 := hO.cell (i := 1) rfl
      have c2 := hO.cell (i := 2) rfl
      have c3 := hO.cell (i := 3) rfl
      have c4 := hO.cell (i := 4) rfl
      have c5 := hO.cell (i := 5) rfl
      clear hO
      have HB := hide hB
      clear hB
      have HE := hide hE
      clear hE
      simp only [fillA, Act.put, List.setIfInBounds_toArray, List.set_cons_zero, List.set_cons_succ] at hNx ⊢
      rw [if_pos (by rfl)]
      go_simp
      first | refine hNx _ _ ?_ | skip
      exact ⟨(unhide hF).step rfl rfl, keepG (unhide f8) (by decide) (by decide), keepG (unhide f9) (by decide) (by decide), keepL (unhide f10) (by decide), keepL (unhide f11) (by decide), (unhide HB).congr (fun k => by rcases k with _ | _ | _ | _ | _ | _ | k <;> simp [ECl3I])⟩
    refine StepsR.cons 2 rfl ?_ ?_
    · intro L us W hi hdep hR Kx hNx
      have hF := hide hR.1
      have f8 := hide hR.2.1
      have f9 := hide hR.2.2.1
      have f10 := hide hR.2.2.2.1
      have f11 := hide hR.2.2.2.2.1
      have hB := hR.2.2.2.2.2
      clear hR
      clear hdep
      have hE : ECl3I ax ay au av ak ad cx cy cu cv ck cd p q r s w L us 0 = some (w.heap.size, [.int .i64 ax, .int .i64 ay, .int .i64 au, .int .i64 av, .int .i64 ak, .int .i64 ad]) := by simp [ECl3I]
      have hO := hB.ownV hE
      have c0 := hO.cell (i := 0) rfl
      have c1 := hO.cell (i := 1) rfl
      have c2 := hO.cell (i := 2) rfl
      have c3 := hO.cell (i := 3) rfl
      have c4 := hO.cell (i := 4) rfl
      have c5 := hO.cell (i := 5) rfl
      clear hO
      have HB := hide hB
      clear hB
      have HE := hide hE
      clear hE
      simp only [fillA, Act.put, List.setIfInBounds_toArray, List.set_cons_zero, List.set_cons_succ] at hNx ⊢
      rw [if_pos (by rfl)]
      go_simp
      first | refine hNx _ _ ?_ | skip
      exact ⟨(unhide hF).step rfl rfl, keepG (unhide f8) (by decide) (by decide), keepG (unhide f9) (by decide) (by decide), keepL (unhide f10) (by decide), keepL (unhide f11) (by decide), (unhide HB).congr (fun k => by rcases k with _ | _ | _ | _ | _ | _ | k <;> simp [ECl3I])⟩
    refine StepsR.cons 3 rfl ?_ ?_
    · intro L us W hi hdep hR Kx hNx
      have hF := hide hR.1
      have f8 := hide hR.2.1
      have f9 := hide hR.2.2.1
      have f10 := hide hR.2.2.2.1
      have f11 := hide hR.2.2.2.2.1
      have hB := hR.2.2.2.2.2
      clear hR
      have d0 : L 0 = true := hdep 0 (by kernel_rfl)
      have d1 : L 1 = true := hdep 1 (by kernel_rfl)
      clear hdep
      have e20 : us 20 = vShip cx cy cu cv ck cd := (unhide hF).get (k := 0) rfl d0
      have e21 : us 21 = vShip ax ay au av ak ad := (unhide hF).get (k := 1) rfl d1
      have HB := hide hB
      clear hB
      simp only [fillA, Act.put, List.setIfInBounds_toArray, List.set_cons_zero, List.set_cons_succ] at hNx ⊢
      simp only [e20, e21] at hNx ⊢
      clear e20 e21
      rw [if_pos (by rfl)]
      have HC := hide (unhide HBe W)
      go_simp
      refine (unhide HC).mono ?_
      rintro e W' ⟨rfl, hb⟩
      replace HB := hide ((unhide HB).step hb)
      clear hb HC
      go_wp2_with fail
      first | refine hNx _ _ ?_ | skip
      exact ⟨(unhide hF).step rfl rfl, keepG (unhide f8) (by decide) (by decide), keepG (unhide f9) (by decide) (by decide), keepL (unhide f10) (by decide), keepL (unhide f11) (by decide), (unhide HB).congr (fun k => by rcases k with _ | _ | _ | _ | _ | _ | k <;> simp [ECl3I])⟩
    refine StepsR.cons 4 rfl ?_ ?_
    · intro L us W hi hdep hR Kx hNx
      have hF := hide hR.1
      have f8 := hide hR.2.1
      have f9 := hide hR.2.2.1
      have f10 := hide hR.2.2.2.1
      have f11 := hide hR.2.2.2.2.1
      have hB := hR.2.2.2.2.2
      clear hR
      clear hdep
      have hE : ECl3I ax ay au av ak ad cx cy cu cv ck cd p q r s w L us 1 = some (w.heap.size + 1, [.int .i64 cx, .int .i64 cy, .int .i64 cu, .int .i64 cv, .int .i64 ck, .int .i64 cd]) := by simp [ECl3I]
      have hO := hB.ownV hE
      have c0 := hO.cell (i := 0) rfl
      have c1 := hO.cell (i := 1) rfl
      have c2 := hO.cell (i := 2) rfl
      have c3 := hO.cell (i := 3) rfl
      have c4 := hO.cell (i := 4) rfl
      have c5 := hO.cell (i := 5) rfl
      clear hO
      have HB := hide hB
      clear hB
      have HE := hide hE
      clear hE
      simp only [fillA, Act.put, List.setIfInBounds_toArray, List.set_cons_zero, List.set_cons_succ] at hNx ⊢
      rw [if_pos (by rfl)]
      go_simp
      first | refine hNx _ _ ?_ | skip
      exact ⟨(unhide hF).step rfl rfl, keepG (unhide f8) (by decide) (by decide), keepG (unhide f9) (by decide) (by decide), keepL (unhide f10) (by decide), keepL (unhide f11) (by decide), (unhide HB).congr (fun k => by rcases k with _ | _ | _ | _ | _ | _ | k <;> simp [ECl3I])⟩
    refine StepsR.cons 5 rfl ?_ ?_
    · intro L us W hi hdep hR Kx hNx
      have hF := hide hR.1
      have f8 := hide hR.2.1
      have f9 := hide hR.2.2.1
      have f10 := hide hR.2.2.2.1
      have f11 := hide hR.2.2.2.2.1
      have hB := hR.2.2.2.2.2
      clear hR
      have d3 : L 3 = true := hdep 3 (by kernel_rfl)
      clear hdep
      have e23 : us 23 = vShip cx cy cu cv ck cd := (unhide hF).get (k := 3) rfl d3
      have HB := hide hB
      clear hB
      simp only [fillA, Act.put, List.setIfInBounds_toArray, List.set_cons_zero, List.set_cons_succ] at hNx ⊢
      simp only [e23] at hNx ⊢
      clear e23
      rw [if_pos (by rfl)]
      have HC := hide (unhide HW2 W)
      go_simp
      refine (unhide HC).mono ?_
      rintro e W' ⟨rfl, hb⟩
      replace HB := hide ((unhide HB).step hb)
      clear hb HC
      go_wp2_with fail
      first | refine hNx _ _ ?_ | skip
      exact ⟨(unhide hF).step rfl rfl, keepG (unhide f8) (by decide) (by decide), keepG (unhide f9) (by decide) (by decide), keepL (unhide f10) (by decide), keepL (unhide f11) (by decide), (unhide HB).congr (fun k => by rcases k with _ | _ | _ | _ | _ | _ | k <;> simp [ECl3I])⟩
    refine StepsR.cons 6 rfl ?_ ?_
    · intro L us W hi hdep hR Kx hNx
      have hF := hide hR.1
      have f8 := hide hR.2.1
      have f9 := hide hR.2.2.1
      have f10 := hide hR.2.2.2.1
      have f11 := hide hR.2.2.2.2.1
      have hB := hR.2.2.2.2.2
      clear hR
      clear hdep
      have hE : ECl3I ax ay au av ak ad cx cy cu cv ck cd p q r s w L us 0 = some (w.heap.size, [.int .i64 ax, .int .i64 ay, .int .i64 au, .int .i64 av, .int .i64 ak, .int .i64 ad]) := by simp [ECl3I]
      have hO := hB.ownV hE
      have c0 := hO.cell (i := 0) rfl
      have c1 := hO.cell (i := 1) rfl
      have c2 := hO.cell (i := 2) rfl
      have c3 := hO.cell (i := 3) rfl
      have c4 := hO.cell (i := 4) rfl
      have c5 := hO.cell (i := 5) rfl
      clear hO
      have HB := hide hB
      clear hB
      have HE := hide hE
      clear hE
      simp only [fillA, Act.put, List.setIfInBounds_toArray, List.set_cons_zero, List.set_cons_succ] at hNx ⊢
      rw [if_pos (by rfl)]
      go_simp
      first | refine hNx _ _ ?_ | skip
      exact ⟨(unhide hF).step rfl rfl, keepG (unhide f8) (by decide) (by decide), keepG (unhide f9) (by decide) (by decide), keepL (unhide f10) (by decide), keepL (unhide f11) (by decide), (unhide HB).congr (fun k => by rcases k with _ | _ | _ | _ | _ | _ | k <;> simp [ECl3I])⟩
    refine StepsR.cons 7 rfl ?_ ?_
    · intro L us W hi hdep hR Kx hNx
      have hF := hide hR.1
      have f8 := hide hR.2.1
      have f9 := hide hR.2.2.1
      have f10 := hide hR.2.2.2.1
      have f11 := hide hR.2.2.2.2.1
      have hB := hR.2.2.2.2.2
      clear hR
      have d5 : L 5 = true := hdep 5 (by kernel_rfl)
      clear hdep
      have e25 : us 25 = vShip ax ay au av ak ad := (unhide hF).get (k := 5) rfl d5
      have HB := hide hB
      clear hB
      simp only [fillA, Act.put, List.setIfInBounds_toArray, List.set_cons_zero, List.set_cons_succ] at hNx ⊢
      simp only [e25] at hNx ⊢
      clear e25
      rw [if_pos (by rfl)]
      have HC := hide (unhide HW1 W)
      go_simp
      refine (unhide HC).mono ?_
      rintro e W' ⟨rfl, hb⟩
      replace HB := hide ((unhide HB).step hb)
      clear hb HC
      go_wp2_with fail
      first | refine hNx _ _ ?_ | skip
      exact ⟨(unhide hF).step rfl rfl, keepG (unhide f8) (by decide) (by decide), keepG (unhide f9) (by decide) (by decide), keepL (unhide f10) (by decide), keepL (unhide f11) (by decide), (unhide HB).congr (fun k => by rcases k with _ | _ | _ | _ | _ | _ | k <;> simp [ECl3I])⟩
    refine StepsR.cons 8 rfl ?_ ?_
    · intro L us W hi hdep hR Kx hNx
      have hF := hide hR.1
      have f8 := hide hR.2.1
      have f9 := hide hR.2.2.1
      have f10 := hide hR.2.2.2.1
      have f11 := hide hR.2.2.2.2.1
      have hB := hR.2.2.2.2.2
      clear hR
      have d4 : L 4 = true := hdep 4 (by kernel_rfl)
      have d6 : L 6 = true := hdep 6 (by kernel_rfl)
      clear hdep
      have e24 : us 24 = vV cu cv := (unhide hF).get (k := 4) rfl d4
      have e26 : us 26 = vV au av := (unhide hF).get (k := 6) rfl d6
      have HB := hide hB
      clear hB
      simp only [fillA, Act.put, List.setIfInBounds_toArray, List.set_cons_zero, List.set_cons_succ] at hNx ⊢
      simp only [e24, e26] at hNx ⊢
      clear e24 e26
      rw [if_pos (by rfl)]
      have HC := hide (unhide HLs W)
      go_simp
      refine (unhide HC).mono ?_
      rintro e W' ⟨rfl, hb⟩
      replace HB := hide ((unhide HB).step hb)
      clear hb HC
      go_wp2_with fail
      first | refine hNx _ _ ?_ | skip
      exact ⟨(unhide hF).step rfl rfl, keepG (unhide f8) (by decide) (by decide), keepG (unhide f9) (by decide) (by decide), keepL (unhide f10) (by decide), keepL (unhide f11) (by decide), (unhide HB).congr (fun k => by rcases k with _ | _ | _ | _ | _ | _ | k <;> simp [ECl3I])⟩
    refine StepsR.cons 9 rfl ?_ ?_
    · intro L us W hi hdep hR Kx hNx
      have hF := hide hR.1
      have f8 := hide hR.2.1
      have f9 := hide hR.2.2.1
      have f10 := hide hR.2.2.2.1
      have f11 := hide hR.2.2.2.2.1
      have hB := hR.2.2.2.2.2
      clear hR
      clear hdep
      have HB := hide hB
      clear hB
      simp only [fillA, Act.put, List.setIfInBounds_toArray, List.set_cons_zero, List.set_cons_succ] at hNx ⊢
      rw [if_pos (by rfl)]
      have A1 := hide ((unhide HB).made 4 #[.int .i64 0, .int .i64 0] 54)
      go_simp
      first | refine hNx _ _ ?_ | skip
      have nst : L 10 = false := notL (unhide f10) hi
      exact ⟨(unhide hF).stepO rfl, newG, keepG (unhide f9) (by decide) (by decide), keepL (unhide f10) (by decide), keepL (unhide f11) (by decide), (unhide A1).congr (fun k => by rcases k with _ | _ | _ | _ | _ | _ | k <;> simp [ECl3I, *])⟩
    refine StepsR.cons 10 rfl ?_ ?_
    · intro L us W hi hdep hR Kx hNx
      have hF := hide hR.1
      have f8 := hide hR.2.1
      have f9 := hide hR.2.2.1
      have f10 := hide hR.2.2.2.1
      have f11 := hide hR.2.2.2.2.1
      have hB := hR.2.2.2.2.2
      clear hR
      clear hdep
      have HB := hide hB
      clear hB
      simp only [fillA, Act.put, List.setIfInBounds_toArray, List.set_cons_zero, List.set_cons_succ] at hNx ⊢
      rw [if_pos (by rfl)]
      have A1 := hide ((unhide HB).made 5 #[.int .i64 0, .int .i64 0] 54)
      go_simp
      first | refine hNx _ _ ?_ | skip
      have nst : L 11 = false := notL (unhide f11) hi
      exact ⟨(unhide hF).stepO rfl, keepG (unhide f8) (by decide) (by decide), newG, keepL (unhide f10) (by decide), keepL (unhide f11) (by decide), (unhide A1).congr (fun k => by rcases k with _ | _ | _ | _ | _ | _ | k <;> simp [ECl3I, *])⟩
    refine StepsR.cons 11 rfl ?_ ?_
    · intro L us W hi hdep hR Kx hNx
      have hF := hide hR.1
      have f8 := hide hR.2.1
      have f9 := hide hR.2.2.1
      have f10 := hide hR.2.2.2.1
      have f11 := hide hR.2.2.2.2.1
      have hB := hR.2.2.2.2.2
      clear hR
      have d2 : L 2 = true := hdep 2 (by kernel_rfl)
      have d8 : L 8 = true := hdep 8 (by kernel_rfl)
      clear hdep
      have hE : ECl3I ax ay au av ak ad cx cy cu cv ck cd p q r s w L us 4 = some ((gOf (us 7)), [.int .i64 0, .int .i64 0]) := by simp [ECl3I, *]
      have e22 : us 22 = vV p q := (unhide hF).get (k := 2) rfl d2
      have e7 := unhide f8 d8
      have hO := hB.ownV hE
      have c0 := hO.cell (i := 0) rfl
      have c1 := hO.cell (i := 1) rfl
      have z0 := hO.frozen 0
      have z1 := hO.frozen 1
      clear hO
      have HB := hide hB
      clear hB
      have HE := hide hE
      clear hE
      simp only [fillA, Act.put, List.setIfInBounds_toArray, List.set_cons_zero, List.set_cons_succ] at hNx ⊢
      simp only [e22] at hNx ⊢
      rw [e7] at hNx ⊢
      clear e22 e7
      rw [if_pos (by rfl)]
      have A1 := hide (((unhide HB).set (k := 4) (g := (gOf (us 7))) (vs := [.int .i64 0, .int .i64 0]) (unhide HE) 0 (.int .i64 p) (by simp)).set (k := 4) (g := (gOf (us 7))) (vs := [.int .i64 p, .int .i64 0]) (by simp) 1 (.int .i64 q) (by simp))
      go_simp
      first | refine hNx undef _ ?_ | skip
      exact ⟨(unhide hF).stepN rfl, keepGN (unhide f8) (by decide), keepGN (unhide f9) (by decide), newL d8 (by decide), keepL (unhide f11) (by decide), (unhide A1).congr (fun k => by rcases k with _ | _ | _ | _ | _ | _ | k <;> simp [ECl3I, *])⟩
    refine StepsR.cons 12 rfl ?_ ?_
    · intro L us W hi hdep hR Kx hNx
      have hF := hide hR.1
      have f8 := hide hR.2.1
      have f9 := hide hR.2.2.1
      have f10 := hide hR.2.2.2.1
      have f11 := hide hR.2.2.2.2.1
      have hB := hR.2.2.2.2.2
      clear hR
      have d7 : L 7 = true := hdep 7 (by kernel_rfl)
      have d9 : L 9 = true := hdep 9 (by kernel_rfl)
      clear hdep
      have hE : ECl3I ax ay au av ak ad cx cy cu cv ck cd p q r s w L us 5 = some ((gOf (us 8)), [.int .i64 0, .int .i64 0]) := by simp [ECl3I, *]
      have e27 : us 27 = vV r s := (unhide hF).get (k := 7) rfl d7
      have e8 := unhide f9 d9
      have hO := hB.ownV hE
      have c0 := hO.cell (i := 0) rfl
      have c1 := hO.cell (i := 1) rfl
      have z0 := hO.frozen 0
      have z1 := hO.frozen 1
      clear hO
      have HB := hide hB
      clear hB
      have HE := hide hE
      clear hE
      simp only [fillA, Act.put, List.setIfInBounds_toArray, List.set_cons_zero, List.set_cons_succ] at hNx ⊢
      simp only [e27] at hNx ⊢
      rw [e8] at hNx ⊢
      clear e27 e8
      rw [if_pos (by rfl)]
      have A1 := hide (((unhide HB).set (k := 5) (g := (gOf (us 8))) (vs := [.int .i64 0, .int .i64 0]) (unhide HE) 0 (.int .i64 r) (by simp)).set (k := 5) (g := (gOf (us 8))) (vs := [.int .i64 r, .int .i64 0]) (by simp) 1 (.int .i64 s) (by simp))
      go_simp
      first | refine hNx undef _ ?_ | skip
      exact ⟨(unhide hF).stepN rfl, keepGN (unhide f8) (by decide), keepGN (unhide f9) (by decide), keepL (unhide f10) (by decide), newL d9 (by decide), (unhide A1).congr (fun k => by rcases k with _ | _ | _ | _ | _ | _ | k <;> simp [ECl3I, *])⟩
    exact StepsR.nil
  · intro L us W hL hR
    have hF := hide hR.1
    have f8 := hide hR.2.1
    have f9 := hide hR.2.2.1
    have f10 := hide hR.2.2.2.1
    have f11 := hide hR.2.2.2.2.1
    have hB := hR.2.2.2.2.2
    clear hR
    have l8 := hL 8 (by decide)
    have l9 := hL 9 (by decide)
    have l10 := hL 10 (by decide)
    have l11 := hL 11 (by decide)
    have hE0 : ECl3I ax ay au av ak ad cx cy cu cv ck cd p q r s w L us 0 = some (w.heap.size, [.int .i64 ax, .int .i64 ay, .int .i64 au, .int .i64 av, .int .i64 ak, .int .i64 ad]) := by simp [ECl3I]
    have hO0 := hB.ownV hE0
    have hE1 : ECl3I ax ay au av ak ad cx cy cu cv ck cd p q r s w L us 1 = some (w.heap.size + 1, [.int .i64 cx, .int .i64 cy, .int .i64 cu, .int .i64 cv, .int .i64 ck, .int .i64 cd]) := by simp [ECl3I]
    have hO1 := hB.ownV hE1
    have hE2 : ECl3I ax ay au av ak ad cx cy cu cv ck cd p q r s w L us 2 = some (w.heap.size + 1 + 1, [.int .i64 0, .int .i64 0]) := by simp [ECl3I]
    have hO2 := hB.ownV hE2
    have hE3 : ECl3I ax ay au av ak ad cx cy cu cv ck cd p q r s w L us 3 = some (w.heap.size + 1 + 1 + 1, [.int .i64 0, .int .i64 0]) := by simp [ECl3I]
    have hO3 := hB.ownV hE3
    have hE4 : ECl3I ax ay au av ak ad cx cy cu cv ck cd p q r s w L us 4 = some ((gOf (us 7)), [.int .i64 p, .int .i64 q]) := by simp [ECl3I, *]
    have hO4 := hB.ownV hE4
    have hE5 : ECl3I ax ay au av ak ad cx cy cu cv ck cd p q r s w L us 5 = some ((gOf (us 8)), [.int .i64 r, .int .i64 s]) := by simp [ECl3I, *]
    have hO5 := hB.ownV hE5
    have hg4 := (hB.own 4 _ _ hE4).1
    have ha4_0 := hB.apart 4 0 _ _ _ _ hE4 hE0 (by decide)
    have ha4_1 := hB.apart 4 1 _ _ _ _ hE4 hE1 (by decide)
    have ha4_2 := hB.apart 4 2 _ _ _ _ hE4 hE2 (by decide)
    have ha4_3 := hB.apart 4 3 _ _ _ _ hE4 hE3 (by decide)
    have hg5 := (hB.own 5 _ _ hE5).1
    have ha5_0 := hB.apart 5 0 _ _ _ _ hE5 hE0 (by decide)
    have ha5_1 := hB.apart 5 1 _ _ _ _ hE5 hE1 (by decide)
    have ha5_2 := hB.apart 5 2 _ _ _ _ hE5 hE2 (by decide)
    have ha5_3 := hB.apart 5 3 _ _ _ _ hE5 hE3 (by decide)
    have ha5_4 := hB.apart 5 4 _ _ _ _ hE5 hE4 (by decide)
    clear hE0 hE1 hE2 hE3 hE4 hE5
    have HA : Hid (Bk w W (XCl3I ax ay au av ak ad cx cy cu cv ck cd p q r s w (gOf (us 7)) (gOf (us 8)))) := hide (hB.congr (fun k => by rcases k with _ | _ | _ | _ | _ | _ | k <;> simp [ECl3I, XCl3I, *]))
    have f0 : us 20 = vShip cx cy cu cv ck cd := (unhide hF).get (k := 0) rfl (hL 0 (by decide))
    have f1 : us 21 = vShip ax ay au av ak ad := (unhide hF).get (k := 1) rfl (hL 1 (by decide))
    have f2 : us 22 = vV p q := (unhide hF).get (k := 2) rfl (hL 2 (by decide))
    have f3 : us 23 = vShip cx cy cu cv ck cd := (unhide hF).get (k := 3) rfl (hL 3 (by decide))
    have f4 : us 24 = vV cu cv := (unhide hF).get (k := 4) rfl (hL 4 (by decide))
    have f5 : us 25 = vShip ax ay au av ak ad := (unhide hF).get (k := 5) rfl (hL 5 (by decide))
    have f6 : us 26 = vV au av := (unhide hF).get (k := 6) rfl (hL 6 (by decide))
    have f7 : us 27 = vV r s := (unhide hF).get (k := 7) rfl (hL 7 (by decide))
    replace f8 := unhide f8 (hL 8 (by decide))
    replace f9 := unhide f9 (hL 9 (by decide))
    have HW := hide hB.below
    clear hB hL l8 l9 l10 l11
    simp only [fillA, Act.put, List.setIfInBounds_toArray, List.set_cons_zero, List.set_cons_succ]
    simp only [f0, f1, f2, f3, f4, f5, f6, f7]
    rw [f8]
    rw [f9]
    clear hF f0 f1 f2 f3 f4 f5 f6 f7 f8 f9 f10 f11
    generalize gOf (us 7) = g7 at *
    generalize gOf (us 8) = g8 at *
    clear us L
    clear hO0 hO1 hO2 hO3 hO4 hO5 hg4 hg5 ha4_0 ha4_1 ha4_2 ha4_3 ha5_0 ha5_1 ha5_2 ha5_3 ha5_4 HW HB HBe HW1 HW2 HLs
    have hq := (unhide HA).ownV (k := 4) rfl
    have m0 := hq.cell (i := 0) rfl
    have m1 := hq.cell (i := 1) rfl
    clear hq
    have hq := (unhide HA).ownV (k := 5) rfl
    have n0 := hq.cell (i := 0) rfl
    have n1 := hq.cell (i := 1) rfl
    clear hq
    have hEq := eql_vec r s 0 0
    have hGd := fun x y w => run_eqGuard_agg (P := Try.prog) w .eql 54 x y #[.int .i64 r, .int .i64 s] #[.int .i64 0, .int .i64 0] Try.eqgVec
    cases hz : (r == 0 && s == 0)
    case true =>
      rw [hz] at HZ hz0
      have HLa := hide fun W => lowest_any 0 1 W (by decide) (by decide) (by decide) (by decide)
      have HLb := hide fun W => lowest_any dd 1 W (by omega) (by omega) (by decide) (by decide)
      rw [lowV_one] at HLa HLb
      go_wp2_with fail
      have HB0 : Hid (∀ us, Bk w _ (ECl5I ax ay au av ak ad cx cy cu cv ck cd p q r s dd g7 g8 w (fun _ => false) us)) := hide (fun us => ((unhide HA)).congr (fun k => by rcases k with _ | _ | _ | _ | _ | _ | k <;> simp [ECl5I, XCl3I]))
      refine wp_region_slots [37, 38, 39, 40, 41, 6] (RCl5I ax ay au av ak ad cx cy cu cv ck cd p q r s dd g7 g8 w) (by kernel_rfl) (by kernel_rfl) (by decide) (by kernel_rfl) ?_ ?_ ?_
      · intro us
        exact ⟨facts_start us _, (unhide HB0 us).drew⟩
      · clear HB0
        refine StepsR.cons 1 rfl ?_ ?_
        · intro L us W hi hdep hR Kx hNx
          have hF := hide hR.1
          have hB := hR.2
          clear hR
          clear hdep
          have HB := hide hB
          clear hB
          simp only [fillA, Act.put, List.setIfInBounds_toArray, List.set_cons_zero, List.set_cons_succ] at hNx ⊢
          rw [if_pos (by rfl)]
          have HC := hide (unhide HLa W)
          go_simp
          refine (unhide HC).mono ?_
          rintro e W' ⟨rfl, hb⟩
          replace HB := hide ((unhide HB).step hb)
          clear hb HC
          go_wp2_with fail
          first | refine hNx _ _ ?_ | skip
          exact ⟨(unhide hF).step rfl rfl, (unhide HB).congr (fun k => by rcases k with _ | _ | _ | _ | _ | _ | k <;> simp [ECl5I])⟩
        refine StepsR.cons 2 rfl ?_ ?_
        · intro L us W hi hdep hR Kx hNx
          have hF := hide hR.1
          have hB := hR.2
          clear hR
          clear hdep
          have hE : ECl5I ax ay au av ak ad cx cy cu cv ck cd p q r s dd g7 g8 w L us 4 = some (g7, [.int .i64 p, .int .i64 q]) := by simp [ECl5I]
          have hO := hB.ownV hE
          have c0 := hO.cell (i := 0) rfl
          have c1 := hO.cell (i := 1) rfl
          clear hO
          have HB := hide hB
          clear hB
          have HE := hide hE
          clear hE
          simp only [fillA, Act.put, List.setIfInBounds_toArray, List.set_cons_zero, List.set_cons_succ] at hNx ⊢
          rw [if_pos (by rfl)]
          go_simp
          first | refine hNx _ _ ?_ | skip
          exact ⟨(unhide hF).step rfl rfl, (unhide HB).congr (fun k => by rcases k with _ | _ | _ | _ | _ | _ | k <;> simp [ECl5I])⟩
        refine StepsR.cons 3 rfl ?_ ?_
        · intro L us W hi hdep hR Kx hNx
          have hF := hide hR.1
          have hB := hR.2
          clear hR
          clear hdep
          have hE : ECl5I ax ay au av ak ad cx cy cu cv ck cd p q r s dd g7 g8 w L us 4 = some (g7, [.int .i64 p, .int .i64 q]) := by simp [ECl5I]
          have hO := hB.ownV hE
          have c0 := hO.cell (i := 0) rfl
          have c1 := hO.cell (i := 1) rfl
          clear hO
          have HB := hide hB
          clear hB
          have HE := hide hE
          clear hE
          simp only [fillA, Act.put, List.setIfInBounds_toArray, List.set_cons_zero, List.set_cons_succ] at hNx ⊢
          rw [if_pos (by rfl)]
          go_simp
          first | refine hNx _ _ ?_ | skip
          exact ⟨(unhide hF).step rfl rfl, (unhide HB).congr (fun k => by rcases k with _ | _ | _ | _ | _ | _ | k <;> simp [ECl5I])⟩
        refine StepsR.cons 4 rfl ?_ ?_
        · intro L us W hi hdep hR Kx hNx
          have hF := hide hR.1
          have hB := hR.2
          clear hR
          have d1 : L 1 = true := hdep 1 (by kernel_rfl)
          have d2 : L 2 = true := hdep 2 (by kernel_rfl)
          clear hdep
          have e38 : us 38 = vV p q := (unhide hF).get (k := 1) rfl d1
          have e39 : us 39 = vV p q := (unhide hF).get (k := 2) rfl d2
          have HB := hide hB
          clear hB
          simp only [fillA, Act.put, List.setIfInBounds_toArray, List.set_cons_zero, List.set_cons_succ] at hNx ⊢
          simp only [e38, e39] at hNx ⊢
          clear e38 e39
          rw [if_pos (by rfl)]
          have HC := hide (unhide HDD W)
          go_simp
          refine (unhide HC).mono ?_
          rintro e W' ⟨rfl, hb⟩
          replace HB := hide ((unhide HB).step hb)
          clear hb HC
          go_wp2_with fail
          first | refine hNx _ _ ?_ | skip
          exact ⟨(unhide hF).step rfl rfl, (unhide HB).congr (fun k => by rcases k with _ | _ | _ | _ | _ | _ | k <;> simp [ECl5I])⟩
        refine StepsR.cons 5 rfl ?_ ?_
        · intro L us W hi hdep hR Kx hNx
          have hF := hide hR.1
          have hB := hR.2
          clear hR
          have d3 : L 3 = true := hdep 3 (by kernel_rfl)
          clear hdep
          have e40 : us 40 = .int .i64 dd := (unhide hF).get (k := 3) rfl d3
          have HB := hide hB
          clear hB
          simp only [fillA, Act.put, List.setIfInBounds_toArray, List.set_cons_zero, List.set_cons_succ] at hNx ⊢
          simp only [e40] at hNx ⊢
          clear e40
          rw [if_pos (by rfl)]
          have HC := hide (unhide HLb W)
          go_simp
          refine (unhide HC).mono ?_
          rintro e W' ⟨rfl, hb⟩
          replace HB := hide ((unhide HB).step hb)
          clear hb HC
          go_wp2_with fail
          first | refine hNx _ _ ?_ | skip
          exact ⟨(unhide hF).step rfl rfl, (unhide HB).congr (fun k => by rcases k with _ | _ | _ | _ | _ | _ | k <;> simp [ECl5I])⟩
        refine StepsR.cons 6 rfl ?_ ?_
        · intro L us W hi hdep hR Kx hNx
          have hF := hide hR.1
          have hB := hR.2
          clear hR
          have d0 : L 0 = true := hdep 0 (by kernel_rfl)
          clear hdep
          have hE : ECl5I ax ay au av ak ad cx cy cu cv ck cd p q r s dd g7 g8 w L us 2 = some (w.heap.size + 1 + 1, [.int .i64 0, .int .i64 0]) := by simp [ECl5I, *]
          have e37 : us 37 = vV 0 1 := (unhide hF).get (k := 0) rfl d0
          have hO := hB.ownV hE
          have c0 := hO.cell (i := 0) rfl
          have c1 := hO.cell (i := 1) rfl
          have z0 := hO.frozen 0
          have z1 := hO.frozen 1
          clear hO
          have HB := hide hB
          clear hB
          have HE := hide hE
          clear hE
          simp only [fillA, Act.put, List.setIfInBounds_toArray, List.set_cons_zero, List.set_cons_succ] at hNx ⊢
          simp only [e37] at hNx ⊢
          clear e37
          rw [if_pos (by rfl)]
          have A1 := hide (((unhide HB).set (k := 2) (g := w.heap.size + 1 + 1) (vs := [.int .i64 0, .int .i64 0]) (unhide HE) 0 (.int .i64 0) (by simp)).set (k := 2) (g := w.heap.size + 1 + 1) (vs := [.int .i64 0, .int .i64 0]) (by simp) 1 (.int .i64 1) (by simp))
          go_simp
          first | refine hNx undef _ ?_ | skip
          exact ⟨(unhide hF).stepN rfl, (unhide A1).congr (fun k => by rcases k with _ | _ | _ | _ | _ | _ | k <;> simp [ECl5I, *])⟩
        refine StepsR.cons 7 rfl ?_ ?_
        · intro L us W hi hdep hR Kx hNx
          have hF := hide hR.1
          have hB := hR.2
          clear hR
          have d4 : L 4 = true := hdep 4 (by kernel_rfl)
          clear hdep
          have hE : ECl5I ax ay au av ak ad cx cy cu cv ck cd p q r s dd g7 g8 w L us 3 = some (w.heap.size + 1 + 1 + 1, [.int .i64 0, .int .i64 0]) := by simp [ECl5I, *]
          have e41 : us 41 = vV dd 1 := (unhide hF).get (k := 4) rfl d4
          have hO := hB.ownV hE
          have c0 := hO.cell (i := 0) rfl
          have c1 := hO.cell (i := 1) rfl
          have z0 := hO.frozen 0
          have z1 := hO.frozen 1
          clear hO
          have HB := hide hB
          clear hB
          have HE := hide hE
          clear hE
          simp only [fillA, Act.put, List.setIfInBounds_toArray, List.set_cons_zero, List.set_cons_succ] at hNx ⊢
          simp only [e41] at hNx ⊢
          clear e41
          rw [if_pos (by rfl)]
          have A1 := hide (((unhide HB).set (k := 3) (g := w.heap.size + 1 + 1 + 1) (vs := [.int .i64 0, .int .i64 0]) (unhide HE) 0 (.int .i64 dd) (by simp)).set (k := 3) (g := w.heap.size + 1 + 1 + 1) (vs := [.int .i64 dd, .int .i64 0]) (by simp) 1 (.int .i64 1) (by simp))
          go_simp
          first | refine hNx undef _ ?_ | skip
          exact ⟨(unhide hF).stepN rfl, (unhide A1).congr (fun k => by rcases k with _ | _ | _ | _ | _ | _ | k <;> simp [ECl5I, *])⟩
        refine StepsR.cons 8 rfl ?_ ?_
        · intro L us W hi hdep hR Kx hNx
          have hF := hide hR.1
          have hB := hR.2
          clear hR
          clear hdep
          have HB := hide hB
          clear hB
          simp only [fillA, Act.put, List.setIfInBounds_toArray, List.set_cons_zero, List.set_cons_succ] at hNx ⊢
          rw [if_pos (by rfl)]
          go_simp
          first | refine hNx _ _ ?_ | skip
          exact ⟨(unhide hF).step rfl rfl, (unhide HB).congr (fun k => by rcases k with _ | _ | _ | _ | _ | _ | k <;> simp [ECl5I])⟩
        exact StepsR.nil
      · intro L us W hL hR
        have hF := hide hR.1
        have hB := hR.2
        clear hR
        have l5 := hL 5 (by decide)
        have l6 := hL 6 (by decide)
        have hE0 : ECl5I ax ay au av ak ad cx cy cu cv ck cd p q r s dd g7 g8 w L us 0 = some (w.heap.size, [.int .i64 ax, .int .i64 ay, .int .i64 au, .int .i64 av, .int .i64 ak, .int .i64 ad]) := by simp [ECl5I]
        have hO0 := hB.ownV hE0
        have hE1 : ECl5I ax ay au av ak ad cx cy cu cv ck cd p q r s dd g7 g8 w L us 1 = some (w.heap.size + 1, [.int .i64 cx, .int .i64 cy, .int .i64 cu, .int .i64 cv, .int .i64 ck, .int .i64 cd]) := by simp [ECl5I]
        have hO1 := hB.ownV hE1
        have hE2 : ECl5I ax ay au av ak ad cx cy cu cv ck cd p q r s dd g7 g8 w L us 2 = some (w.heap.size + 1 + 1, [.int .i64 0, .int .i64 1]) := by simp [ECl5I, *]
        have hO2 := hB.ownV hE2
        have hE3 : ECl5I ax ay au av ak ad cx cy cu cv ck cd p q r s dd g7 g8 w L us 3 = some (w.heap.size + 1 + 1 + 1, [.int .i64 dd, .int .i64 1]) := by simp [ECl5I, *]
        have hO3 := hB.ownV hE3
        have hE4 : ECl5I ax ay au av ak ad cx cy cu cv ck cd p q r s dd g7 g8 w L us 4 = some (g7, [.int .i64 p, .int .i64 q]) := by simp [ECl5I]
        have hO4 := hB.ownV hE4
        have hE5 : ECl5I ax ay au av ak ad cx cy cu cv ck cd p q r s dd g7 g8 w L us 5 = some (g8, [.int .i64 r, .int .i64 s]) := by simp [ECl5I]
        have hO5 := hB.ownV hE5
        clear hE0 hE1 hE2 hE3 hE4 hE5
        have HA : Hid (Bk w W (XCl5I ax ay au av ak ad cx cy cu cv ck cd p q r s dd g7 g8 w)) := hide (hB.congr (fun k => by rcases k with _ | _ | _ | _ | _ | _ | k <;> simp [ECl5I, XCl5I, *]))
        have f0 : us 37 = vV 0 1 := (unhide hF).get (k := 0) rfl (hL 0 (by decide))
        have f1 : us 38 = vV p q := (unhide hF).get (k := 1) rfl (hL 1 (by decide))
        have f2 : us 39 = vV p q := (unhide hF).get (k := 2) rfl (hL 2 (by decide))
        have f3 : us 40 = .int .i64 dd := (unhide hF).get (k := 3) rfl (hL 3 (by decide))
        have f4 : us 41 = vV dd 1 := (unhide hF).get (k := 4) rfl (hL 4 (by decide))
        have f7 : us 6 = .bool true := (unhide hF).get (k := 7) rfl (hL 7 (by decide))
        have HW := hide hB.below
        clear hB hL l5 l6
        simp only [fillA, Act.put, List.setIfInBounds_toArray, List.set_cons_zero, List.set_cons_succ]
        simp only [f0, f1, f2, f3, f4, f7]
        clear hF f0 f1 f2 f3 f4 f7
        clear us L
        have r0 := hO2.cell (i := 0) rfl
        have r1 := hO2.cell (i := 1) rfl
        have s0 := hO3.cell (i := 0) rfl
        have s1 := hO3.cell (i := 1) rfl
        clear hO0 hO1 hO2 hO3 hO4 hO5 HA
        go_wp2
        refine bodyPost_ret (v := .tuple #[v2 (0, 1), v2 (dd, 1), .bool true]) (by simp [results, Try.results11, go_sem, v2, r0, r1, s0, s1]) rfl ⟨by rw [unhide HTT, unhide HTF, unhide HN, unhide HVT, unhide HVF, unhide HZ]; rfl, unhide HW⟩
    rw [hz] at HZ hz0
    have vn : vv ≠ 0 := by simpa using hz0
    have v3 : 0 < vv := by omega
    go_wp2_with fail
    refine (unhide HDV _).mono ?_
    rintro e w8 ⟨rfl, hb⟩
    replace HA := hide ((unhide HA).step hb)
    clear hb m0 m1 n0 n1 hz hEq hGd
    cases hp : decide (0 < dv)
    case true =>
      rw [hp] at HZ
      have HLa := hide fun W => lowest_any 0 1 W (by decide) (by decide) (by decide) (by decide)
      have HLb := hide fun W => lowest_any dd 1 W (by omega) (by omega) (by decide) (by decide)
      rw [lowV_one] at HLa HLb
      go_wp2_with fail
      have HB0 : Hid (∀ us, Bk w _ (ECl5I ax ay au av ak ad cx cy cu cv ck cd p q r s dd g7 g8 w (fun _ => false) us)) := hide (fun us => ((unhide HA)).congr (fun k => by rcases k with _ | _ | _ | _ | _ | _ | k <;> simp [ECl5I, XCl3I]))
      refine wp_region_slots [37, 38, 39, 40, 41, 6] (RCl5I ax ay au av ak ad cx cy cu cv ck cd p q r s dd g7 g8 w) (by kernel_rfl) (by kernel_rfl) (by decide) (by kernel_rfl) ?_ ?_ ?_
      · intro us
        exact ⟨facts_start us _, (unhide HB0 us).drew⟩
      · clear HB0
        refine StepsR.cons 1 rfl ?_ ?_
        · intro L us W hi hdep hR Kx hNx
          have hF := hide hR.1
          have hB := hR.2
          clear hR
          clear hdep
          have HB := hide hB
          clear hB
          simp only [fillA, Act.put, List.setIfInBounds_toArray, List.set_cons_zero, List.set_cons_succ] at hNx ⊢
          rw [if_pos (by rfl)]
          have HC := hide (unhide HLa W)
          go_simp
          refine (unhide HC).mono ?_
          rintro e W' ⟨rfl, hb⟩
          replace HB := hide ((unhide HB).step hb)
          clear hb HC
          go_wp2_with fail
          first | refine hNx _ _ ?_ | skip
          exact ⟨(unhide hF).step rfl rfl, (unhide HB).congr (fun k => by rcases k with _ | _ | _ | _ | _ | _ | k <;> simp [ECl5I])⟩
        refine StepsR.cons 2 rfl ?_ ?_
        · intro L us W hi hdep hR Kx hNx
          have hF := hide hR.1
          have hB := hR.2
          clear hR
          clear hdep
          have hE : ECl5I ax ay au av ak ad cx cy cu cv ck cd p q r s dd g7 g8 w L us 4 = some (g7, [.int .i64 p, .int .i64 q]) := by simp [ECl5I]
          have hO := hB.ownV hE
          have c0 := hO.cell (i := 0) rfl
          have c1 := hO.cell (i := 1) rfl
          clear hO
          have HB := hide hB
          clear hB
          have HE := hide hE
          clear hE
          simp only [fillA, Act.put, List.setIfInBounds_toArray, List.set_cons_zero, List.set_cons_succ] at hNx ⊢
          rw [if_pos (by rfl)]
          go_simp
          first | refine hNx _ _ ?_ | skip
          exact ⟨(unhide hF).step rfl rfl, (unhide HB).congr (fun k => by rcases k with _ | _ | _ | _ | _ | _ | k <;> simp [ECl5I])⟩
        refine StepsR.cons 3 rfl ?_ ?_
        · intro L us W hi hdep hR Kx hNx
          have hF := hide hR.1
          have hB := hR.2
          clear hR
          clear hdep
          have hE : ECl5I ax ay au av ak ad cx cy cu cv ck cd p q r s dd g7 g8 w L us 4 = some (g7, [.int .i64 p, .int .i64 q]) := by simp [ECl5I]
          have hO := hB.ownV hE
          have c0 := hO.cell (i := 0) rfl
          have c1 := hO.cell (i := 1) rfl
          clear hO
          have HB := hide hB
          clear hB
          have HE := hide hE
          clear hE
          simp only [fillA, Act.put, List.setIfInBounds_toArray, List.set_cons_zero, List.set_cons_succ] at hNx ⊢
          rw [if_pos (by rfl)]
          go_simp
          first | refine hNx _ _ ?_ | skip
          exact ⟨(unhide hF).step rfl rfl, (unhide HB).congr (fun k => by rcases k with _ | _ | _ | _ | _ | _ | k <;> simp [ECl5I])⟩
        refine StepsR.cons 4 rfl ?_ ?_
        · intro L us W hi hdep hR Kx hNx
          have hF := hide hR.1
          have hB := hR.2
          clear hR
          have d1 : L 1 = true := hdep 1 (by kernel_rfl)
          have d2 : L 2 = true := hdep 2 (by kernel_rfl)
          clear hdep
          have e38 : us 38 = vV p q := (unhide hF).get (k := 1) rfl d1
          have e39 : us 39 = vV p q := (unhide hF).get (k := 2) rfl d2
          have HB := hide hB
          clear hB
          simp only [fillA, Act.put, List.setIfInBounds_toArray, List.set_cons_zero, List.set_cons_succ] at hNx ⊢
          simp only [e38, e39] at hNx ⊢
          clear e38 e39
          rw [if_pos (by rfl)]
          have HC := hide (unhide HDD W)
          go_simp
          refine (unhide HC).mono ?_
          rintro e W' ⟨rfl, hb⟩
          replace HB := hide ((unhide HB).step hb)
          clear hb HC
          go_wp2_with fail
          first | refine hNx _ _ ?_ | skip
          exact ⟨(unhide hF).step rfl rfl, (unhide HB).congr (fun k => by rcases k with _ | _ | _ | _ | _ | _ | k <;> simp [ECl5I])⟩
        refine StepsR.cons 5 rfl ?_ ?_
        · intro L us W hi hdep hR Kx hNx
          have hF := hide hR.1
          have hB := hR.2
          clear hR
          have d3 : L 3 = true := hdep 3 (by kernel_rfl)
          clear hdep
          have e40 : us 40 = .int .i64 dd := (unhide hF).get (k := 3) rfl d3
          have HB := hide hB
          clear hB
          simp only [fillA, Act.put, List.setIfInBounds_toArray, List.set_cons_zero, List.set_cons_succ] at hNx ⊢
          simp only [e40] at hNx ⊢
          clear e40
          rw [if_pos (by rfl)]
          have HC := hide (unhide HLb W)
          go_simp
          refine (unhide HC).mono ?_
          rintro e W' ⟨rfl, hb⟩
          replace HB := hide ((unhide HB).step hb)
          clear hb HC
          go_wp2_with fail
          first | refine hNx _ _ ?_ | skip
          exact ⟨(unhide hF).step rfl rfl, (unhide HB).congr (fun k => by rcases k with _ | _ | _ | _ | _ | _ | k <;> simp [ECl5I])⟩
        refine StepsR.cons 6 rfl ?_ ?_
        · intro L us W hi hdep hR Kx hNx
          have hF := hide hR.1
          have hB := hR.2
          clear hR
          have d0 : L 0 = true := hdep 0 (by kernel_rfl)
          clear hdep
          have hE : ECl5I ax ay au av ak ad cx cy cu cv ck cd p q r s dd g7 g8 w L us 2 = some (w.heap.size + 1 + 1, [.int .i64 0, .int .i64 0]) := by simp [ECl5I, *]
          have e37 : us 37 = vV 0 1 := (unhide hF).get (k := 0) rfl d0
          have hO := hB.ownV hE
          have c0 := hO.cell (i := 0) rfl
          have c1 := hO.cell (i := 1) rfl
          have z0 := hO.frozen 0
          have z1 := hO.frozen 1
          clear hO
          have HB := hide hB
          clear hB
          have HE := hide hE
          clear hE
          simp only [fillA, Act.put, List.setIfInBounds_toArray, List.set_cons_zero, List.set_cons_succ] at hNx ⊢
          simp only [e37] at hNx ⊢
          clear e37
          rw [if_pos (by rfl)]
          have A1 := hide (((unhide HB).set (k := 2) (g := w.heap.size + 1 + 1) (vs := [.int .i64 0, .int .i64 0]) (unhide HE) 0 (.int .i64 0) (by simp)).set (k := 2) (g := w.heap.size + 1 + 1) (vs := [.int .i64 0, .int .i64 0]) (by simp) 1 (.int .i64 1) (by simp))
          go_simp
          first | refine hNx undef _ ?_ | skip
          exact ⟨(unhide hF).stepN rfl, (unhide A1).congr (fun k => by rcases k with _ | _ | _ | _ | _ | _ | k <;> simp [ECl5I, *])⟩
        refine StepsR.cons 7 rfl ?_ ?_
        · intro L us W hi hdep hR Kx hNx
          have hF := hide hR.1
          have hB := hR.2
          clear hR
          have d4 : L 4 = true := hdep 4 (by kernel_rfl)
          clear hdep
          have hE : ECl5I ax ay au av ak ad cx cy cu cv ck cd p q r s dd g7 g8 w L us 3 = some (w.heap.size + 1 + 1 + 1, [.int .i64 0, .int .i64 0]) := by simp [ECl5I, *]
          have e41 : us 41 = vV dd 1 := (unhide hF).get (k := 4) rfl d4
          have hO := hB.ownV hE
          have c0 := hO.cell (i := 0) rfl
          have c1 := hO.cell (i := 1) rfl
          have z0 := hO.frozen 0
          have z1 := hO.frozen 1
          clear hO
          have HB := hide hB
          clear hB
          have HE := hide hE
          clear hE
          simp only [fillA, Act.put, List.setIfInBounds_toArray, List.set_cons_zero, List.set_cons_succ] at hNx ⊢
          simp only [e41] at hNx ⊢
          clear e41
          rw [if_pos (by rfl)]
          have A1 := hide (((unhide HB).set (k := 3) (g := w.heap.size + 1 + 1 + 1) (vs := [.int .i64 0, .int .i64 0]) (unhide HE) 0 (.int .i64 dd) (by simp)).set (k := 3) (g := w.heap.size + 1 + 1 + 1) (vs := [.int .i64 dd, .int .i64 0]) (by simp) 1 (.int .i64 1) (by simp))
          go_simp
          first | refine hNx undef _ ?_ | skip
          exact ⟨(unhide hF).stepN rfl, (unhide A1).congr (fun k => by rcases k with _ | _ | _ | _ | _ | _ | k <;> simp [ECl5I, *])⟩
        refine StepsR.cons 8 rfl ?_ ?_
        · intro L us W hi hdep hR Kx hNx
          have hF := hide hR.1
          have hB := hR.2
          clear hR
          clear hdep
          have HB := hide hB
          clear hB
          simp only [fillA, Act.put, List.setIfInBounds_toArray, List.set_cons_zero, List.set_cons_succ] at hNx ⊢
          rw [if_pos (by rfl)]
          go_simp
          first | refine hNx _ _ ?_ | skip
          exact ⟨(unhide hF).step rfl rfl, (unhide HB).congr (fun k => by rcases k with _ | _ | _ | _ | _ | _ | k <;> simp [ECl5I])⟩
        exact StepsR.nil
      · intro L us W hL hR
        have hF := hide hR.1
        have hB := hR.2
        clear hR
        have l5 := hL 5 (by decide)
        have l6 := hL 6 (by decide)
        have hE0 : ECl5I ax ay au av ak ad cx cy cu cv ck cd p q r s dd g7 g8 w L us 0 = some (w.heap.size, [.int .i64 ax, .int .i64 ay, .int .i64 au, .int .i64 av, .int .i64 ak, .int .i64 ad]) := by simp [ECl5I]
        have hO0 := hB.ownV hE0
        have hE1 : ECl5I ax ay au av ak ad cx cy cu cv ck cd p q r s dd g7 g8 w L us 1 = some (w.heap.size + 1, [.int .i64 cx, .int .i64 cy, .int .i64 cu, .int .i64 cv, .int .i64 ck, .int .i64 cd]) := by simp [ECl5I]
        have hO1 := hB.ownV hE1
        have hE2 : ECl5I ax ay au av ak ad cx cy cu cv ck cd p q r s dd g7 g8 w L us 2 = some (w.heap.size + 1 + 1, [.int .i64 0, .int .i64 1]) := by simp [ECl5I, *]
        have hO2 := hB.ownV hE2
        have hE3 : ECl5I ax ay au av ak ad cx cy cu cv ck cd p q r s dd g7 g8 w L us 3 = some (w.heap.size + 1 + 1 + 1, [.int .i64 dd, .int .i64 1]) := by simp [ECl5I, *]
        have hO3 := hB.ownV hE3
        have hE4 : ECl5I ax ay au av ak ad cx cy cu cv ck cd p q r s dd g7 g8 w L us 4 = some (g7, [.int .i64 p, .int .i64 q]) := by simp [ECl5I]
        have hO4 := hB.ownV hE4
        have hE5 : ECl5I ax ay au av ak ad cx cy cu cv ck cd p q r s dd g7 g8 w L us 5 = some (g8, [.int .i64 r, .int .i64 s]) := by simp [ECl5I]
        have hO5 := hB.ownV hE5
        clear hE0 hE1 hE2 hE3 hE4 hE5
        have HA : Hid (Bk w W (XCl5I ax ay au av ak ad cx cy cu cv ck cd p q r s dd g7 g8 w)) := hide (hB.congr (fun k => by rcases k with _ | _ | _ | _ | _ | _ | k <;> simp [ECl5I, XCl5I, *]))
        have f0 : us 37 = vV 0 1 := (unhide hF).get (k := 0) rfl (hL 0 (by decide))
        have f1 : us 38 = vV p q := (unhide hF).get (k := 1) rfl (hL 1 (by decide))
        have f2 : us 39 = vV p q := (unhide hF).get (k := 2) rfl (hL 2 (by decide))
        have f3 : us 40 = .int .i64 dd := (unhide hF).get (k := 3) rfl (hL 3 (by decide))
        have f4 : us 41 = vV dd 1 := (unhide hF).get (k := 4) rfl (hL 4 (by decide))
        have f7 : us 6 = .bool true := (unhide hF).get (k := 7) rfl (hL 7 (by decide))
        have HW := hide hB.below
        clear hB hL l5 l6
        simp only [fillA, Act.put, List.setIfInBounds_toArray, List.set_cons_zero, List.set_cons_succ]
        simp only [f0, f1, f2, f3, f4, f7]
        clear hF f0 f1 f2 f3 f4 f7
        clear us L
        have r0 := hO2.cell (i := 0) rfl
        have r1 := hO2.cell (i := 1) rfl
        have s0 := hO3.cell (i := 0) rfl
        have s1 := hO3.cell (i := 1) rfl
        clear hO0 hO1 hO2 hO3 hO4 hO5 HA
        go_wp2
        refine bodyPost_ret (v := .tuple #[v2 (0, 1), v2 (dd, 1), .bool true]) (by simp [results, Try.results11, go_sem, v2, r0, r1, s0, s1]) rfl ⟨by rw [unhide HTT, unhide HTF, unhide HN, unhide HVT, unhide HVF, unhide HZ]; rfl, unhide HW⟩
    rw [hp] at HZ
    have hq := (unhide HA).ownV (k := 4) rfl
    have m0 := hq.cell (i := 0) rfl
    have m1 := hq.cell (i := 1) rfl
    clear hq
    have hq := (unhide HA).ownV (k := 5) rfl
    have n0 := hq.cell (i := 0) rfl
    have n1 := hq.cell (i := 1) rfl
    clear hq
    go_wp2_with fail
    refine (unhide HCR _).mono ?_
    rintro e w9 ⟨rfl, hb⟩
    replace HA := hide ((unhide HA).step hb)
    clear hb m0 m1 n0 n1 HCR hp
    have HL1 := hide fun W => lowest_any (-dv) vv W (by omega) (by omega) v3 (by omega)
    have HL2 := hide fun W => lowest_any kk vv W (by omega) (by omega) v3 (by omega)
    have HX1 : Hid (clT p q r s = lowV (-dv) vv) := by show _ = _; rw [unhide HVT, unhide HZ]; rfl
    have HX2 : Hid (clF p q r s = lowV kk vv) := by show _ = _; rw [unhide HVF, unhide HZ]; rfl
    clear HVT HVF HZ
    generalize lowV (-dv) vv = LT at HL1 HX1
    generalize lowV kk vv = LF at HL2 HX2
    obtain ⟨ta, tb⟩ := LT
    obtain ⟨fa, fb⟩ := LF
    go_wp2_with fail
    have HB0 : Hid (∀ us, Bk w _ (ECl7I ax ay au av ak ad cx cy cu cv ck cd p q r s dv vv k kk ta tb fa fb g7 g8 w (fun _ => false) us)) := hide (fun us => ((unhide HA)).congr (fun k => by rcases k with _ | _ | _ | _ | _ | _ | k <;> simp [ECl7I, XCl3I]))
    refine wp_region_slots [45, 46, 47, 48, 49, 50, 51, 52, 53, 54, 55, 56, 57, 58, 59, 6] (RCl7I ax ay au av ak ad cx cy cu cv ck cd p q r s dv vv k kk ta tb fa fb g7 g8 w) (by kernel_rfl) (by kernel_rfl) (by decide) (by kernel_rfl) ?_ ?_ ?_
    · intro us
      exact ⟨facts_start us _, (unhide HB0 us).drew⟩
    · clear HB0
      refine StepsR.cons 1 rfl ?_ ?_
      · intro L us W hi hdep hR Kx hNx
        have hF := hide hR.1
        have hB := hR.2
        clear hR
        clear hdep
        have hE : ECl7I ax ay au av ak ad cx cy cu cv ck cd p q r s dv vv k kk ta tb fa fb g7 g8 w L us 4 = some (g7, [.int .i64 p, .int .i64 q]) := by simp [ECl7I]
        have hO := hB.ownV hE
        have c0 := hO.cell (i := 0) rfl
        have c1 := hO.cell (i := 1) rfl
        clear hO
        have HB := hide hB
        clear hB
        have HE := hide hE
        clear hE
        simp only [fillA, Act.put, List.setIfInBounds_toArray, List.set_cons_zero, List.set_cons_succ] at hNx ⊢
        rw [if_pos (by rfl)]
        go_simp
        first | refine hNx _ _ ?_ | skip
        exact ⟨(unhide hF).step rfl rfl, (unhide HB).congr (fun k => by rcases k with _ | _ | _ | _ | _ | _ | k <;> simp [ECl7I])⟩
      refine StepsR.cons 2 rfl ?_ ?_
      · intro L us W hi hdep hR Kx hNx
        have hF := hide hR.1
        have hB := hR.2
        clear hR
        clear hdep
        have hE : ECl7I ax ay au av ak ad cx cy cu cv ck cd p q r s dv vv k kk ta tb fa fb g7 g8 w L us 5 = some (g8, [.int .i64 r, .int .i64 s]) := by simp [ECl7I]
        have hO := hB.ownV hE
        have c0 := hO.cell (i := 0) rfl
        have c1 := hO.cell (i := 1) rfl
        clear hO
        have HB := hide hB
        clear hB
        have HE := hide hE
        clear hE
        simp only [fillA, Act.put, List.setIfInBounds_toArray, List.set_cons_zero, List.set_cons_succ] at hNx ⊢
        rw [if_pos (by rfl)]
        go_simp
        first | refine hNx _ _ ?_ | skip
        exact ⟨(unhide hF).step rfl rfl, (unhide HB).congr (fun k => by rcases k with _ | _ | _ | _ | _ | _ | k <;> simp [ECl7I])⟩
      refine StepsR.cons 3 rfl ?_ ?_
      · intro L us W hi hdep hR Kx hNx
        have hF := hide hR.1
        have hB := hR.2
        clear hR
        have d0 : L 0 = true := hdep 0 (by kernel_rfl)
        have d1 : L 1 = true := hdep 1 (by kernel_rfl)
        clear hdep
        have e45 : us 45 = vV p q := (unhide hF).get (k := 0) rfl d0
        have e46 : us 46 = vV r s := (unhide hF).get (k := 1) rfl d1
        have HB := hide hB
        clear hB
        simp only [fillA, Act.put, List.setIfInBounds_toArray, List.set_cons_zero, List.set_cons_succ] at hNx ⊢
        simp only [e45, e46] at hNx ⊢
        clear e45 e46
        rw [if_pos (by rfl)]
        have HC := hide (unhide HDV W)
        go_simp
        refine (unhide HC).mono ?_
        rintro e W' ⟨rfl, hb⟩
        replace HB := hide ((unhide HB).step hb)
        clear hb HC
        go_wp2_with fail
        first | refine hNx _ _ ?_ | skip
        exact ⟨(unhide hF).step rfl rfl, (unhide HB).congr (fun k => by rcases k with _ | _ | _ | _ | _ | _ | k <;> simp [ECl7I])⟩
      refine StepsR.cons 4 rfl ?_ ?_
      · intro L us W hi hdep hR Kx hNx
        have hF := hide hR.1
        have hB := hR.2
        clear hR
        have d2 : L 2 = true := hdep 2 (by kernel_rfl)
        clear hdep
        have e47 : us 47 = .int .i64 dv := (unhide hF).get (k := 2) rfl d2
        have HB := hide hB
        clear hB
        simp only [fillA, Act.put, List.setIfInBounds_toArray, List.set_cons_zero, List.set_cons_succ] at hNx ⊢
        simp only [e47] at hNx ⊢
        clear e47
        rw [if_pos (by rfl)]
        have qn : IntKind.i64.wrap (-dv) = -dv := by rw [IntKind.wrap_i64]; omega
        go_simp
        first | refine hNx _ _ ?_ | skip
        exact ⟨(unhide hF).step rfl rfl, (unhide HB).congr (fun k => by rcases k with _ | _ | _ | _ | _ | _ | k <;> simp [ECl7I])⟩
      refine StepsR.cons 5 rfl ?_ ?_
      · intro L us W hi hdep hR Kx hNx
        have hF := hide hR.1
        have hB := hR.2
        clear hR
        clear hdep
        have hE : ECl7I ax ay au av ak ad cx cy cu cv ck cd p q r s dv vv k kk ta tb fa fb g7 g8 w L us 5 = some (g8, [.int .i64 r, .int .i64 s]) := by simp [ECl7I]
        have hO := hB.ownV hE
        have c0 := hO.cell (i := 0) rfl
        have c1 := hO.cell (i := 1) rfl
        clear hO
        have HB := hide hB
        clear hB
        have HE := hide hE
        clear hE
        simp only [fillA, Act.put, List.setIfInBounds_toArray, List.set_cons_zero, List.set_cons_succ] at hNx ⊢
        rw [if_pos (by rfl)]
        go_simp
        first | refine hNx _ _ ?_ | skip
        exact ⟨(unhide hF).step rfl rfl, (unhide HB).congr (fun k => by rcases k with _ | _ | _ | _ | _ | _ | k <;> simp [ECl7I])⟩
      refine StepsR.cons 6 rfl ?_ ?_
      · intro L us W hi hdep hR Kx hNx
        have hF := hide hR.1
        have hB := hR.2
        clear hR
        clear hdep
        have hE : ECl7I ax ay au av ak ad cx cy cu cv ck cd p q r s dv vv k kk ta tb fa fb g7 g8 w L us 5 = some (g8, [.int .i64 r, .int .i64 s]) := by simp [ECl7I]
        have hO := hB.ownV hE
        have c0 := hO.cell (i := 0) rfl
        have c1 := hO.cell (i := 1) rfl
        clear hO
        have HB := hide hB
        clear hB
        have HE := hide hE
        clear hE
        simp only [fillA, Act.put, List.setIfInBounds_toArray, List.set_cons_zero, List.set_cons_succ] at hNx ⊢
        rw [if_pos (by rfl)]
        go_simp
        first | refine hNx _ _ ?_ | skip
        exact ⟨(unhide hF).step rfl rfl, (unhide HB).congr (fun k => by rcases k with _ | _ | _ | _ | _ | _ | k <;> simp [ECl7I])⟩
      refine StepsR.cons 7 rfl ?_ ?_
      · intro L us W hi hdep hR Kx hNx
        have hF := hide hR.1
        have hB := hR.2
        clear hR
        have d4 : L 4 = true := hdep 4 (by kernel_rfl)
        have d5 : L 5 = true := hdep 5 (by kernel_rfl)
        clear hdep
        have e49 : us 49 = vV r s := (unhide hF).get (k := 4) rfl d4
        have e50 : us 50 = vV r s := (unhide hF).get (k := 5) rfl d5
        have HB := hide hB
        clear hB
        simp only [fillA, Act.put, List.setIfInBounds_toArray, List.set_cons_zero, List.set_cons_succ] at hNx ⊢
        simp only [e49, e50] at hNx ⊢
        clear e49 e50
        rw [if_pos (by rfl)]
        have HC := hide (unhide HVV W)
        go_simp
        refine (unhide HC).mono ?_
        rintro e W' ⟨rfl, hb⟩
        replace HB := hide ((unhide HB).step hb)
        clear hb HC
        go_wp2_with fail
        first | refine hNx _ _ ?_ | skip
        exact ⟨(unhide hF).step rfl rfl, (unhide HB).congr (fun k => by rcases k with _ | _ | _ | _ | _ | _ | k <;> simp [ECl7I])⟩
      refine StepsR.cons 8 rfl ?_ ?_
      · intro L us W hi hdep hR Kx hNx
        have hF := hide hR.1
        have hB := hR.2
        clear hR
        have d3 : L 3 = true := hdep 3 (by kernel_rfl)
        have d6 : L 6 = true := hdep 6 (by kernel_rfl)
        clear hdep
        have e48 : us 48 = .int .i64 (-dv) := (unhide hF).get (k := 3) rfl d3
        have e51 : us 51 = .int .i64 vv := (unhide hF).get (k := 6) rfl d6
        have HB := hide hB
        clear hB
        simp only [fillA, Act.put, List.setIfInBounds_toArray, List.set_cons_zero, List.set_cons_succ] at hNx ⊢
        simp only [e48, e51] at hNx ⊢
        clear e48 e51
        rw [if_pos (by rfl)]
        have HC := hide (unhide HL1 W)
        go_simp
        refine (unhide HC).mono ?_
        rintro e W' ⟨rfl, hb⟩
        replace HB := hide ((unhide HB).step hb)
        clear hb HC
        go_wp2_with fail
        first | refine hNx _ _ ?_ | skip
        exact ⟨(unhide hF).step rfl rfl, (unhide HB).congr (fun k => by rcases k with _ | _ | _ | _ | _ | _ | k <;> simp [ECl7I])⟩
      refine StepsR.cons 9 rfl ?_ ?_
      · intro L us W hi hdep hR Kx hNx
        have hF := hide hR.1
        have hB := hR.2
        clear hR
        clear hdep
        have HB := hide hB
        clear hB
        simp only [fillA, Act.put, List.setIfInBounds_toArray, List.set_cons_zero, List.set_cons_succ] at hNx ⊢
        rw [if_pos (by rfl)]
        go_simp
        first | refine hNx _ _ ?_ | skip
        exact ⟨(unhide hF).step rfl rfl, (unhide HB).congr (fun k => by rcases k with _ | _ | _ | _ | _ | _ | k <;> simp [ECl7I])⟩
      refine StepsR.cons 10 rfl ?_ ?_
      · intro L us W hi hdep hR Kx hNx
        have hF := hide hR.1
        have hB := hR.2
        clear hR
        clear hdep
        have HB := hide hB
        clear hB
        simp only [fillA, Act.put, List.setIfInBounds_toArray, List.set_cons_zero, List.set_cons_succ] at hNx ⊢
        rw [if_pos (by rfl)]
        go_simp
        first | refine hNx _ _ ?_ | skip
        exact ⟨(unhide hF).step rfl rfl, (unhide HB).congr (fun k => by rcases k with _ | _ | _ | _ | _ | _ | k <;> simp [ECl7I])⟩
      refine StepsR.cons 11 rfl ?_ ?_
      · intro L us W hi hdep hR Kx hNx
        have hF := hide hR.1
        have hB := hR.2
        clear hR
        have d8 : L 8 = true := hdep 8 (by kernel_rfl)
        have d9 : L 9 = true := hdep 9 (by kernel_rfl)
        clear hdep
        have e53 : us 53 = .int .i64 k := (unhide hF).get (k := 8) rfl d8
        have e54 : us 54 = .int .i64 k := (unhide hF).get (k := 9) rfl d9
        have HB := hide hB
        clear hB
        simp only [fillA, Act.put, List.setIfInBounds_toArray, List.set_cons_zero, List.set_cons_succ] at hNx ⊢
        simp only [e53, e54] at hNx ⊢
        clear e53 e54
        rw [if_pos (by rfl)]
        go_simp
        first | refine hNx _ _ ?_ | skip
        exact ⟨(unhide hF).step rfl rfl, (unhide HB).congr (fun k => by rcases k with _ | _ | _ | _ | _ | _ | k <;> simp [ECl7I])⟩
      refine StepsR.cons 12 rfl ?_ ?_
      · intro L us W hi hdep hR Kx hNx
        have hF := hide hR.1
        have hB := hR.2
        clear hR
        clear hdep
        have hE : ECl7I ax ay au av ak ad cx cy cu cv ck cd p q r s dv vv k kk ta tb fa fb g7 g8 w L us 5 = some (g8, [.int .i64 r, .int .i64 s]) := by simp [ECl7I]
        have hO := hB.ownV hE
        have c0 := hO.cell (i := 0) rfl
        have c1 := hO.cell (i := 1) rfl
        clear hO
        have HB := hide hB
        clear hB
        have HE := hide hE
        clear hE
        simp only [fillA, Act.put, List.setIfInBounds_toArray, List.set_cons_zero, List.set_cons_succ] at hNx ⊢
        rw [if_pos (by rfl)]
        go_simp
        first | refine hNx _ _ ?_ | skip
        exact ⟨(unhide hF).step rfl rfl, (unhide HB).congr (fun k => by rcases k with _ | _ | _ | _ | _ | _ | k <;> simp [ECl7I])⟩
      refine StepsR.cons 13 rfl ?_ ?_
      · intro L us W hi hdep hR Kx hNx
        have hF := hide hR.1
        have hB := hR.2
        clear hR
        clear hdep
        have hE : ECl7I ax ay au av ak ad cx cy cu cv ck cd p q r s dv vv k kk ta tb fa fb g7 g8 w L us 5 = some (g8, [.int .i64 r, .int .i64 s]) := by simp [ECl7I]
        have hO := hB.ownV hE
        have c0 := hO.cell (i := 0) rfl
        have c1 := hO.cell (i := 1) rfl
        clear hO
        have HB := hide hB
        clear hB
        have HE := hide hE
        clear hE
        simp only [fillA, Act.put, List.setIfInBounds_toArray, List.set_cons_zero, List.set_cons_succ] at hNx ⊢
        rw [if_pos (by rfl)]
        go_simp
        first | refine hNx _ _ ?_ | skip
        exact ⟨(unhide hF).step rfl rfl, (unhide HB).congr (fun k => by rcases k with _ | _ | _ | _ | _ | _ | k <;> simp [ECl7I])⟩
      refine StepsR.cons 14 rfl ?_ ?_
      · intro L us W hi hdep hR Kx hNx
        have hF := hide hR.1
        have hB := hR.2
        clear hR
        have d11 : L 11 = true := hdep 11 (by kernel_rfl)
        have d12 : L 12 = true := hdep 12 (by kernel_rfl)
        clear hdep
        have e56 : us 56 = vV r s := (unhide hF).get (k := 11) rfl d11
        have e57 : us 57 = vV r s := (unhide hF).get (k := 12) rfl d12
        have HB := hide hB
        clear hB
        simp only [fillA, Act.put, List.setIfInBounds_toArray, List.set_cons_zero, List.set_cons_succ] at hNx ⊢
        simp only [e56, e57] at hNx ⊢
        clear e56 e57
        rw [if_pos (by rfl)]
        have HC := hide (unhide HVV W)
        go_simp
        refine (unhide HC).mono ?_
        rintro e W' ⟨rfl, hb⟩
        replace HB := hide ((unhide HB).step hb)
        clear hb HC
        go_wp2_with fail
        first | refine hNx _ _ ?_ | skip
        exact ⟨(unhide hF).step rfl rfl, (unhide HB).congr (fun k => by rcases k with _ | _ | _ | _ | _ | _ | k <;> simp [ECl7I])⟩
      refine StepsR.cons 15 rfl ?_ ?_
      · intro L us W hi hdep hR Kx hNx
        have hF := hide hR.1
        have hB := hR.2
        clear hR
        have d10 : L 10 = true := hdep 10 (by kernel_rfl)
        have d13 : L 13 = true := hdep 13 (by kernel_rfl)
        clear hdep
        have e55 : us 55 = .int .i64 kk := (unhide hF).get (k := 10) rfl d10
        have e58 : us 58 = .int .i64 vv := (unhide hF).get (k := 13) rfl d13
        have HB := hide hB
        clear hB
        simp only [fillA, Act.put, List.setIfInBounds_toArray, List.set_cons_zero, List.set_cons_succ] at hNx ⊢
        simp only [e55, e58] at hNx ⊢
        clear e55 e58
        rw [if_pos (by rfl)]
        have HC := hide (unhide HL2 W)
        go_simp
        refine (unhide HC).mono ?_
        rintro e W' ⟨rfl, hb⟩
        replace HB := hide ((unhide HB).step hb)
        clear hb HC
        go_wp2_with fail
        first | refine hNx _ _ ?_ | skip
        exact ⟨(unhide hF).step rfl rfl, (unhide HB).congr (fun k => by rcases k with _ | _ | _ | _ | _ | _ | k <;> simp [ECl7I])⟩
      refine StepsR.cons 16 rfl ?_ ?_
      · intro L us W hi hdep hR Kx hNx
        have hF := hide hR.1
        have hB := hR.2
        clear hR
        have d7 : L 7 = true := hdep 7 (by kernel_rfl)
        clear hdep
        have hE : ECl7I ax ay au av ak ad cx cy cu cv ck cd p q r s dv vv k kk ta tb fa fb g7 g8 w L us 2 = some (w.heap.size + 1 + 1, [.int .i64 0, .int .i64 0]) := by simp [ECl7I, *]
        have e52 : us 52 = vV ta tb := (unhide hF).get (k := 7) rfl d7
        have hO := hB.ownV hE
        have c0 := hO.cell (i := 0) rfl
        have c1 := hO.cell (i := 1) rfl
        have z0 := hO.frozen 0
        have z1 := hO.frozen 1
        clear hO
        have HB := hide hB
        clear hB
        have HE := hide hE
        clear hE
        simp only [fillA, Act.put, List.setIfInBounds_toArray, List.set_cons_zero, List.set_cons_succ] at hNx ⊢
        simp only [e52] at hNx ⊢
        clear e52
        rw [if_pos (by rfl)]
        have A1 := hide (((unhide HB).set (k := 2) (g := w.heap.size + 1 + 1) (vs := [.int .i64 0, .int .i64 0]) (unhide HE) 0 (.int .i64 ta) (by simp)).set (k := 2) (g := w.heap.size + 1 + 1) (vs := [.int .i64 ta, .int .i64 0]) (by simp) 1 (.int .i64 tb) (by simp))
        go_simp
        first | refine hNx undef _ ?_ | skip
        exact ⟨(unhide hF).stepN rfl, (unhide A1).congr (fun k => by rcases k with _ | _ | _ | _ | _ | _ | k <;> simp [ECl7I, *])⟩
      refine StepsR.cons 17 rfl ?_ ?_
      · intro L us W hi hdep hR Kx hNx
        have hF := hide hR.1
        have hB := hR.2
        clear hR
        have d14 : L 14 = true := hdep 14 (by kernel_rfl)
        clear hdep
        have hE : ECl7I ax ay au av ak ad cx cy cu cv ck cd p q r s dv vv k kk ta tb fa fb g7 g8 w L us 3 = some (w.heap.size + 1 + 1 + 1, [.int .i64 0, .int .i64 0]) := by simp [ECl7I, *]
        have e59 : us 59 = vV fa fb := (unhide hF).get (k := 14) rfl d14
        have hO := hB.ownV hE
        have c0 := hO.cell (i := 0) rfl
        have c1 := hO.cell (i := 1) rfl
        have z0 := hO.frozen 0
        have z1 := hO.frozen 1
        clear hO
        have HB := hide hB
        clear hB
        have HE := hide hE
        clear hE
        simp only [fillA, Act.put, List.setIfInBounds_toArray, List.set_cons_zero, List.set_cons_succ] at hNx ⊢
        simp only [e59] at hNx ⊢
        clear e59
        rw [if_pos (by rfl)]
        have A1 := hide (((unhide HB).set (k := 3) (g := w.heap.size + 1 + 1 + 1) (vs := [.int .i64 0, .int .i64 0]) (unhide HE) 0 (.int .i64 fa) (by simp)).set (k := 3) (g := w.heap.size + 1 + 1 + 1) (vs := [.int .i64 fa, .int .i64 0]) (by simp) 1 (.int .i64 fb) (by simp))
        go_simp
        first | refine hNx undef _ ?_ | skip
        exact ⟨(unhide hF).stepN rfl, (unhide A1).congr (fun k => by rcases k with _ | _ | _ | _ | _ | _ | k <;> simp [ECl7I, *])⟩
      refine StepsR.cons 18 rfl ?_ ?_
      · intro L us W hi hdep hR Kx hNx
        have hF := hide hR.1
        have hB := hR.2
        clear hR
        clear hdep
        have HB := hide hB
        clear hB
        simp only [fillA, Act.put, List.setIfInBounds_toArray, List.set_cons_zero, List.set_cons_succ] at hNx ⊢
        rw [if_pos (by rfl)]
        go_simp
        first | refine hNx _ _ ?_ | skip
        exact ⟨(unhide hF).step rfl rfl, (unhide HB).congr (fun k => by rcases k with _ | _ | _ | _ | _ | _ | k <;> simp [ECl7I])⟩
      exact StepsR.nil
    · intro L us W hL hR
      have hF := hide hR.1
      have hB := hR.2
      clear hR
      have l15 := hL 15 (by decide)
      have l16 := hL 16 (by decide)
      have hE0 : ECl7I ax ay au av ak ad cx cy cu cv ck cd p q r s dv vv k kk ta tb fa fb g7 g8 w L us 0 = some (w.heap.size, [.int .i64 ax, .int .i64 ay, .int .i64 au, .int .i64 av, .int .i64 ak, .int .i64 ad]) := by simp [ECl7I]
      have hO0 := hB.ownV hE0
      have hE1 : ECl7I ax ay au av ak ad cx cy cu cv ck cd p q r s dv vv k kk ta tb fa fb g7 g8 w L us 1 = some (w.heap.size + 1, [.int .i64 cx, .int .i64 cy, .int .i64 cu, .int .i64 cv, .int .i64 ck, .int .i64 cd]) := by simp [ECl7I]
      have hO1 := hB.ownV hE1
      have hE2 : ECl7I ax ay au av ak ad cx cy cu cv ck cd p q r s dv vv k kk ta tb fa fb g7 g8 w L us 2 = some (w.heap.size + 1 + 1, [.int .i64 ta, .int .i64 tb]) := by simp [ECl7I, *]
      have hO2 := hB.ownV hE2
      have hE3 : ECl7I ax ay au av ak ad cx cy cu cv ck cd p q r s dv vv k kk ta tb fa fb g7 g8 w L us 3 = some (w.heap.size + 1 + 1 + 1, [.int .i64 fa, .int .i64 fb]) := by simp [ECl7I, *]
      have hO3 := hB.ownV hE3
      have hE4 : ECl7I ax ay au av ak ad cx cy cu cv ck cd p q r s dv vv k kk ta tb fa fb g7 g8 w L us 4 = some (g7, [.int .i64 p, .int .i64 q]) := by simp [ECl7I]
      have hO4 := hB.ownV hE4
      have hE5 : ECl7I ax ay au av ak ad cx cy cu cv ck cd p q r s dv vv k kk ta tb fa fb g7 g8 w L us 5 = some (g8, [.int .i64 r, .int .i64 s]) := by simp [ECl7I]
      have hO5 := hB.ownV hE5
      clear hE0 hE1 hE2 hE3 hE4 hE5
      have HA : Hid (Bk w W (XCl7I ax ay au av ak ad cx cy cu cv ck cd p q r s dv vv k kk ta tb fa fb g7 g8 w)) := hide (hB.congr (fun k => by rcases k with _ | _ | _ | _ | _ | _ | k <;> simp [ECl7I, XCl7I, *]))
      have f0 : us 45 = vV p q := (unhide hF).get (k := 0) rfl (hL 0 (by decide))
      have f1 : us 46 = vV r s := (unhide hF).get (k := 1) rfl (hL 1 (by decide))
      have f2 : us 47 = .int .i64 dv := (unhide hF).get (k := 2) rfl (hL 2 (by decide))
      have f3 : us 48 = .int .i64 (-dv) := (unhide hF).get (k := 3) rfl (hL 3 (by decide))
      have f4 : us 49 = vV r s := (unhide hF).get (k := 4) rfl (hL 4 (by decide))
      have f5 : us 50 = vV r s := (unhide hF).get (k := 5) rfl (hL 5 (by decide))
      have f6 : us 51 = .int .i64 vv := (unhide hF).get (k := 6) rfl (hL 6 (by decide))
      have f7 : us 52 = vV ta tb := (unhide hF).get (k := 7) rfl (hL 7 (by decide))
      have f8 : us 53 = .int .i64 k := (unhide hF).get (k := 8) rfl (hL 8 (by decide))
      have f9 : us 54 = .int .i64 k := (unhide hF).get (k := 9) rfl (hL 9 (by decide))
      have f10 : us 55 = .int .i64 kk := (unhide hF).get (k := 10) rfl (hL 10 (by decide))
      have f11 : us 56 = vV r s := (unhide hF).get (k := 11) rfl (hL 11 (by decide))
      have f12 : us 57 = vV r s := (unhide hF).get (k := 12) rfl (hL 12 (by decide))
      have f13 : us 58 = .int .i64 vv := (unhide hF).get (k := 13) rfl (hL 13 (by decide))
      have f14 : us 59 = vV fa fb := (unhide hF).get (k := 14) rfl (hL 14 (by decide))
      have f17 : us 6 = .bool true := (unhide hF).get (k := 17) rfl (hL 17 (by decide))
      have HW := hide hB.below
      clear hB hL l15 l16
      simp only [fillA, Act.put, List.setIfInBounds_toArray, List.set_cons_zero, List.set_cons_succ]
      simp only [f0, f1, f2, f3, f4, f5, f6, f7, f8, f9, f10, f11, f12, f13, f14, f17]
      clear hF f0 f1 f2 f3 f4 f5 f6 f7 f8 f9 f10 f11 f12 f13 f14 f17
      clear us L
      have r0 := hO2.cell (i := 0) rfl
      have r1 := hO2.cell (i := 1) rfl
      have s0 := hO3.cell (i := 0) rfl
      have s1 := hO3.cell (i := 1) rfl
      clear hO0 hO1 hO2 hO3 hO4 hO5 HA
      go_wp2
      refine bodyPost_ret (v := .tuple #[v2 (ta, tb), v2 (fa, fb), .bool true]) (by simp [results, Try.results11, go_sem, v2, r0, r1, s0, s1]) rfl ⟨by rw [unhide HTT, unhide HTF, unhide HN, unhide HX1, unhide HX2], unhide HW⟩

end Go.Proofs.Ytcljgaofpeaplaa
