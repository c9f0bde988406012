/- A load: what masses weigh together and their two moments; contracts of the program's and the specification's LoadOf: both tell it. -/
import Derived.Test.YticcjdcglfiggaaStA
import Derived.Test.YticcjdcglfiggaaWalkH
namespace Go.Proofs.Yticcjdcglfiggaa
open Go.RowKit

theorem sumTo_bd2 {f : Nat → Int} {A B : Int} {n : Nat} (h : ∀ i, i < n → A ≤ f i ∧ f i ≤ B) : ∀ k, k ≤ n → k * A ≤ sumTo f k ∧ sumTo f k ≤ k * B
  | 0, _ => by simp [sumTo]
  | k + 1, hk => by
    have h1 := sumTo_bd2 h k (by omega)
    have h2 := h k (by omega)
    have e : ((k + 1 : Nat) : Int) * B = k * B + B := by rw [Int.natCast_add, Int.add_mul]; simp
    have e' : ((k + 1 : Nat) : Int) * A = k * A + A := by rw [Int.natCast_add, Int.add_mul]; simp
    simp only [sumTo]
    omega

def wF (L : List I3) (i : Nat) : Int := (L.getD i default).1
def xF (L : List I3) (i : Nat) : Int := (L.getD i default).1 * (L.getD i default).2.1
def zF (L : List I3) (i : Nat) : Int := (L.getD i default).1 * (L.getD i default).2.2

/-- The sums of the first k masses. -/
def loadTo (L : List I3) (k : Nat) : I3 := (sumTo (wF L) k, sumTo (xF L) k, sumTo (zF L) k)
def load (L : List I3) : I3 := if massesB L = true then loadTo L L.length else (0, 0, 0)

theorem massB_true {x y z : Int} (h : massB (x, y, z) = true) : (0 ≤ x ∧ x ≤ 10000) ∧ (-1200 ≤ y ∧ y ≤ 2400) ∧ (0 ≤ z ∧ z ≤ 1000) := by
  unfold massB at h
  simp only [Bool.and_eq_true] at h
  exact ⟨inB_true h.1.1, inB_true h.1.2, inB_true h.2⟩

theorem massesB_at {L : List I3} (h : massesB L = true) : L.length ≤ 40 ∧ ∀ i, i < L.length → massB (L.getD i default) = true := by
  unfold massesB at h
  simp only [Bool.and_eq_true, decide_eq_true_eq] at h
  exact ⟨h.1, fun i hi => all_at h.2 hi⟩

theorem mul_bd3 {a b : Int} (h1 : 0 ≤ a) (h2 : a ≤ 10000) (h3 : -1200 ≤ b) (h4 : b ≤ 2400) : -12000000 ≤ a * b ∧ a * b ≤ 24000000 := by
  constructor
  · have : 0 ≤ a * (b + 1200) := Int.mul_nonneg h1 (by omega)
    rw [Int.mul_add] at this
    omega
  · have : 0 ≤ a * (2400 - b) := Int.mul_nonneg h1 (by omega)
    rw [Int.mul_sub] at this
    omega

theorem load_terms {L : List I3} (h : massesB L = true) {i : Nat} (hi : i < L.length) : (0 ≤ wF L i ∧ wF L i ≤ 10000) ∧ (-12000000 ≤ xF L i ∧ xF L i ≤ 24000000) ∧ (0 ≤ zF L i ∧ zF L i ≤ 10000000) := by
  have hm := massB_true ((massesB_at h).2 i hi)
  unfold wF xF zF
  refine ⟨hm.1, mul_bd3 hm.1.1 hm.1.2 hm.2.1.1 hm.2.1.2, ?_⟩
  exact mul_bd hm.1.1 hm.1.2 hm.2.2.1 hm.2.2.2

theorem loadTo_bd {L : List I3} (h : massesB L = true) {k : Nat} (hk : k ≤ L.length) :
    (0 ≤ (loadTo L k).1 ∧ (loadTo L k).1 ≤ k * 10000) ∧ (k * (-12000000) ≤ (loadTo L k).2.1 ∧ (loadTo L k).2.1 ≤ k * 24000000) ∧ (0 ≤ (loadTo L k).2.2 ∧ (loadTo L k).2.2 ≤ k * 10000000) :=
  ⟨sumTo_bd (fun _ hi => (load_terms h hi).1) k hk, sumTo_bd2 (fun _ hi => (load_terms h hi).2.1) k hk, sumTo_bd (fun _ hi => (load_terms h hi).2.2) k hk⟩

/-- Block g is the call's own and holds three numbers. -/
abbrev Own3 (w : World) (g : Nat) (x : I3) : Prop := OwnV w g [.int .i64 x.1, .int .i64 x.2.1, .int .i64 x.2.2]

theorem own3_alloc (w : World) (x : I3) (t : TypeId) : Own3 (w.alloc (.cells #[.int .i64 x.1, .int .i64 x.2.1, .int .i64 x.2.2] t)) w.heap.size x :=
  ⟨_, t, Deep.blk_alloc_new _ _, fun i hi => by simp⟩

theorem Own3.cells {w : World} {g : Nat} {x y z : Int} (h : Own3 w g (x, y, z)) : w.cell? ⟨g, 0, none⟩ = some (.int .i64 x) ∧ w.cell? ⟨g, 1, none⟩ = some (.int .i64 y) ∧ w.cell? ⟨g, 2, none⟩ = some (.int .i64 z) :=
  ⟨OwnV.cell h rfl, OwnV.cell h rfl, OwnV.cell h rfl⟩

theorem Own3.puts {w : World} {g : Nat} {x : I3} (h : Own3 w g x) (a b c : Int) : Own3 (((w.setCell ⟨g, 0, none⟩ (.int .i64 a)).setCell ⟨g, 1, none⟩ (.int .i64 b)).setCell ⟨g, 2, none⟩ (.int .i64 c)) g (a, b, c) :=
  ((h.set 0 (.int .i64 a) (by simp)).set 1 (.int .i64 b) (by simp)).set 2 (.int .i64 c) (by simp)

/-- While a load is summed: nothing of w has turned; the answer's block and the sum's block. -/
structure Summing (w wr : World) (G : Nat) (x : I3) : Prop where
  below : Below w.heap.size w wr
  ans : Own3 wr w.heap.size (0, 0, 0)
  sum : Own3 wr G x
  above : w.heap.size < G

theorem Summing.puts {w wr : World} {G : Nat} {x : I3} (h : Summing w wr G x) (o : Obj) (a b c : Int) : Summing w ((((wr.setCell ⟨G, 0, none⟩ (.int .i64 a)).setCell ⟨G, 1, none⟩ (.int .i64 b)).setCell ⟨G, 2, none⟩ (.int .i64 c)).alloc o) G (a, b, c) := by
  have hG := h.above
  have hz := h.below.size
  refine ⟨(((h.below.setCell (by show _ ≤ G; omega) _).setCell (by show _ ≤ G; omega) _).setCell (by show _ ≤ G; omega) _).alloc (by simpa using hz) o, ?_, OwnV.alloc (Own3.puts h.sum a b c) o, hG⟩
  exact OwnV.alloc (((OwnV.other h.ans (by show _ ≠ G; omega) _).other (by show _ ≠ G; omega) _).other (by show _ ≠ G; omega) _) o

set_option maxHeartbeats 800000 in
theorem implLoadOf_any (v : Value) (L : List I3) (w : World) (h : R3 w v L) :
    Calls Try.prog 64 #[v] w fun e w' => e = .returned (.tuple #[v3 (load L), .bool (massesB L)]) ∧ Below w.heap.size w w' := by
  have HV := hide h
  obtain ⟨ao, cap, rfl, hl, hm, hc⟩ := h
  unfold maxLen at hm
  have HC := hide hc
  clear hc
  go_enter Try.func64, Try.ntmps64
  go_wp2_with fail
  have HW0 := hide (Below.alloc1 w (.cells #[.int .i64 0, .int .i64 0, .int .i64 0] 93))
  have HA0 := hide (own3_alloc w (0, 0, 0) 93)
  refine (implMassesOk_any _ L _ ((unhide HV).below (unhide HW0))).mono ?_
  rintro e w1 ⟨rfl, hb⟩
  have HW1 := hide (Below.step (unhide HW0) hb)
  have HA1 : Hid (Own3 w1 w.heap.size (0, 0, 0)) := OwnV.below (unhide HA0) hb (by simp)
  have hz1 : w.heap.size < w1.heap.size := (unhide HA1).lt
  clear hb HW0 HA0
  cases hok : massesB L with
  | false =>
    have HL : Hid (load L = (0, 0, 0)) := by show _ = _; simp [load, hok]
    have HK := hide hok
    clear hok
    obtain ⟨c0, c1, c2⟩ := (unhide HA1).cells
    have f0 := (unhide HA1).frozen
    go_wp2
    refine bodyPost_ret (v := .tuple #[v3 (0, 0, 0), .bool false]) (by simp [results, Try.results64, go_sem, c0, c1, c2]) rfl ⟨by rw [unhide HL, unhide HK], ?_⟩
    exact (((unhide HW1).setCell (Nat.le_refl _) _).setCell (Nat.le_refl _) _).setCell (Nat.le_refl _) _
  | true =>
    have HK := hide hok
    have hlen := (massesB_at hok).1
    have HS1 : Hid (Summing w (w1.alloc (.cells #[.int .i64 0, .int .i64 0, .int .i64 0] 93)) w1.heap.size (0, 0, 0)) :=
      ⟨Below.step (unhide HW1) (Below.alloc1 _ _), OwnV.alloc (unhide HA1) _, own3_alloc w1 (0, 0, 0) _, hz1⟩
    clear hok HA1 HW1
    go_wp2
    go_loopg [13] L.length (fun g i wr => ∃ k : Nat, k ≤ L.length ∧ g = L.length - k ∧ i = .int .i64 k ∧ Summing w wr w1.heap.size (loadTo L k))
    case atStart => exact ⟨0, Nat.zero_le _, rfl, rfl, unhide HS1⟩
    case round =>
      obtain ⟨k, hk, rfl, rfl, hS⟩ := hrel
      by_cases hkn : k < L.length
      · obtain ⟨b, o, x, y, z, rfl, hc0, hc1, hc2, EX⟩ := rec3At (unhide HC) hkn
        have g0 := wcell3 hc0 hS.below
        have g1 := wcell3 hc1 hS.below
        have g2 := wcell3 hc2 hS.below
        have hbd := loadTo_bd (unhide HK) hk
        have hmb := massB_true (x := x) (y := y) (z := z) (by rw [← unhide EX]; exact (massesB_at (unhide HK)).2 k hkn)
        have hp := mul_bd3 hmb.1.1 hmb.1.2 hmb.2.1.1 hmb.2.1.2
        have hq := mul_bd hmb.1.1 hmb.1.2 hmb.2.2.1 hmb.2.2.2
        have HN : Hid (loadTo L (k + 1) = ((loadTo L k).1 + x, (loadTo L k).2.1 + x * y, (loadTo L k).2.2 + x * z)) := by
          show _ = _
          simp only [loadTo, sumTo, wF, xF, zF, unhide EX]
        obtain ⟨⟨a0, a1⟩, ⟨a2, a3⟩, a4, a5⟩ := hbd
        obtain ⟨p1, p2⟩ := hp
        obtain ⟨q1, q2⟩ := hq
        generalize loadTo L k = X at *
        obtain ⟨A, B, C⟩ := X
        dsimp only at a0 a1 a2 a3 a4 a5 HN
        obtain ⟨d0, d1, d2⟩ := Own3.cells hS.sum
        have f0 := hS.sum.frozen
        have hlt := hS.sum.lt
        have HP := hide hS.puts
        obtain ⟨⟨m1, m2⟩, _, _⟩ := hmb
        clear hc0 hc1 hc2 hS EX
        generalize hxy : x * y = xy at *
        generalize hxz : x * z = xz at *
        go_wp2
        go_roundg (L.length - (k + 1))
        case measure => omega
        case rel =>
          refine ⟨k + 1, by omega, rfl, by go_num, ?_⟩
          rw [unhide HN]
          exact unhide HP _ _ _ _
      · have hkk : k = L.length := by omega
        subst hkk
        have HL : Hid (load L = loadTo L L.length) := by show _ = _; simp [load, unhide HK]
        generalize loadTo L L.length = x at *
        obtain ⟨A, B, C⟩ := x
        obtain ⟨d0, d1, d2⟩ := Own3.cells hS.sum
        obtain ⟨e0, e1, e2⟩ := Own3.cells hS.ans
        have f0 := hS.ans.frozen
        have HB := hide hS.below
        clear hS
        go_wp2
        refine bodyPost_ret (v := .tuple #[v3 (A, B, C), .bool true]) (by simp [results, Try.results64, go_sem, e0, e1, e2]) rfl ⟨by rw [unhide HL, unhide HK], ?_⟩
        exact (((unhide HB).setCell (Nat.le_refl _) _).setCell (Nat.le_refl _) _).setCell (Nat.le_refl _) _

set_option maxHeartbeats 1600000 in
theorem specLoadOf_any (v : Value) (L : List I3) (w : World) (h : R3 w v L) :
    Calls Try.prog 80 #[v] w fun e w' => e = .returned (.tuple #[v3 (load L), .bool (massesB L)]) ∧ Below w.heap.size w w' := by
  have HV := hide h
  obtain ⟨ao, cap, rfl, hl, hm, hc⟩ := h
  unfold maxLen at hm
  have HC := hide hc
  clear hc
  go_enter Try.func80, Try.ntmps80
  go_wp2_with fail
  have HS0 : Hid (Summing w ((w.alloc (.cells #[.int .i64 0, .int .i64 0, .int .i64 0] 93)).alloc (.cells #[.int .i64 0, .int .i64 0, .int .i64 0] 93)) (w.heap.size + 1) (0, 0, 0)) :=
    ⟨Below.step (Below.alloc1 _ _) (Below.alloc1 _ _), OwnV.alloc (own3_alloc w (0, 0, 0) _) _, by have := own3_alloc (w.alloc (.cells #[.int .i64 0, .int .i64 0, .int .i64 0] 93)) (0, 0, 0) 93; simpa using this, by omega⟩
  refine (specMassesOk_any _ L _ ((unhide HV).below (unhide HS0).below)).mono ?_
  rintro e w1 ⟨rfl, hb⟩
  have hS1 : Summing w w1 (w.heap.size + 1) (0, 0, 0) := ⟨Below.step (unhide HS0).below hb, OwnV.below (unhide HS0).ans hb (unhide HS0).ans.lt, OwnV.below (unhide HS0).sum hb (unhide HS0).sum.lt, by omega⟩
  have hz1 : w.heap.size + 1 < w1.heap.size := hS1.sum.lt
  have HS1 := hide hS1
  clear hb HS0 hS1
  cases hok : massesB L with
  | false =>
    have HL : Hid (load L = (0, 0, 0)) := by show _ = _; simp [load, hok]
    have HK := hide hok
    clear hok
    obtain ⟨c0, c1, c2⟩ := Own3.cells (unhide HS1).ans
    obtain ⟨d0, d1, d2⟩ := Own3.cells (unhide HS1).sum
    have f0 := (unhide HS1).ans.frozen
    go_wp2
    refine bodyPost_ret (v := .tuple #[v3 (0, 0, 0), .bool false]) (by simp [results, Try.results80, go_sem, c0, c1, c2]) rfl ⟨by rw [unhide HL, unhide HK], ?_⟩
    exact (((unhide HS1).below.setCell (Nat.le_refl _) _).setCell (Nat.le_refl _) _).setCell (Nat.le_refl _) _
  | true =>
    have HK := hide hok
    have hlen := (massesB_at hok).1
    clear hok
    go_wp2
    go_loopg [5] L.length (fun g i wr => ∃ k : Nat, k ≤ L.length ∧ g = L.length - k ∧ i = .int .i64 k ∧ Summing w wr (w.heap.size + 1) (loadTo L k))
    case atStart => exact ⟨0, Nat.zero_le _, rfl, rfl, unhide HS1⟩
    case round =>
      obtain ⟨k, hk, rfl, rfl, hS⟩ := hrel
      by_cases hkn : k < L.length
      · obtain ⟨b, o, x, y, z, rfl, hc0, hc1, hc2, EX⟩ := rec3At (unhide HC) hkn
        have g0 := wcell3 hc0 hS.below
        have g1 := wcell3 hc1 hS.below
        have g2 := wcell3 hc2 hS.below
        have hbd := loadTo_bd (unhide HK) hk
        have hmb := massB_true (x := x) (y := y) (z := z) (by rw [← unhide EX]; exact (massesB_at (unhide HK)).2 k hkn)
        have hp := mul_bd3 hmb.1.1 hmb.1.2 hmb.2.1.1 hmb.2.1.2
        have hq := mul_bd hmb.1.1 hmb.1.2 hmb.2.2.1 hmb.2.2.2
        have HN : Hid (loadTo L (k + 1) = ((loadTo L k).1 + x, (loadTo L k).2.1 + x * y, (loadTo L k).2.2 + x * z)) := by
          show _ = _
          simp only [loadTo, sumTo, wF, xF, zF, unhide EX]
        obtain ⟨⟨a0, a1⟩, ⟨a2, a3⟩, a4, a5⟩ := hbd
        obtain ⟨p1, p2⟩ := hp
        obtain ⟨q1, q2⟩ := hq
        generalize loadTo L k = X at *
        obtain ⟨A, B, C⟩ := X
        dsimp only at a0 a1 a2 a3 a4 a5 HN
        obtain ⟨d0, d1, d2⟩ := Own3.cells hS.sum
        have f0 := hS.sum.frozen
        have hlt := hS.sum.lt
        have HP := hide hS.puts
        obtain ⟨⟨m1, m2⟩, _, _⟩ := hmb
        clear hc0 hc1 hc2 hS EX
        generalize hxy : x * y = xy at *
        generalize hxz : x * z = xz at *
        go_wp2
        go_roundg (L.length - (k + 1))
        case measure => omega
        case rel =>
          refine ⟨k + 1, by omega, rfl, by go_num, ?_⟩
          rw [unhide HN]
          exact unhide HP _ _ _ _
      · have hkk : k = L.length := by omega
        subst hkk
        have HL : Hid (load L = loadTo L L.length) := by show _ = _; simp [load, unhide HK]
        generalize loadTo L L.length = x at *
        obtain ⟨A, B, C⟩ := x
        obtain ⟨d0, d1, d2⟩ := Own3.cells hS.sum
        obtain ⟨e0, e1, e2⟩ := Own3.cells hS.ans
        have f0 := hS.ans.frozen
        have HB := hide hS.below
        clear hS
        go_wp2
        refine bodyPost_ret (v := .tuple #[v3 (A, B, C), .bool true]) (by simp [results, Try.results80, go_sem, e0, e1, e2]) rfl ⟨by rw [unhide HL, unhide HK], ?_⟩
        exact (((unhide HB).setCell (Nat.le_refl _) _).setCell (Nat.le_refl _) _).setCell (Nat.le_refl _) _

end Go.Proofs.Yticcjdcglfiggaa
