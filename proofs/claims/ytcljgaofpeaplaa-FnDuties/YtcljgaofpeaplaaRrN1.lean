/- The program's Duties. Written by wip/mkrrD.py. -/
import Derived.Test.YtcljgaofpeaplaaRrN0
import Derived.Test.YtcljgaofpeaplaaWalkB
namespace Go.Proofs.Ytcljgaofpeaplaa
open Go.RowKit

/-- A row of n, its first j cells told by f, the rest 0. -/
def curC (n : Nat) (f : Nat → Int) (j : Nat) : List Value := (List.range n).map fun t => .int .i64 (if t < j then f t else 0)
theorem curC_len (n : Nat) (f : Nat → Int) (j : Nat) : (curC n f j).length = n := by simp [curC]
theorem curC_at {n t : Nat} (f : Nat → Int) (j : Nat) (h : t < n) : (curC n f j)[t]? = some (.int .i64 (if t < j then f t else 0)) := by simp [curC, h]
theorem curC_set {n j : Nat} {f : Nat → Int} : (curC n f j).set j (.int .i64 (f j)) = curC n f (j + 1) := by
  apply List.ext_getElem
  · simp [curC]
  · intro t h1 h2
    simp only [List.getElem_set, curC, List.getElem_map, List.getElem_range]
    by_cases e : j = t
    · subst e; simp
    · rw [if_neg e]
      by_cases h : t < j
      · rw [if_pos h, if_pos (by omega)]
      · rw [if_neg h, if_neg (by omega)]
theorem curC_skip {n j : Nat} {f : Nat → Int} (h : f j = 0) : curC n f (j + 1) = curC n f j := by
  unfold curC
  apply List.map_congr_left
  intro t _
  by_cases e : t = j
  · subst e; simp [h]
  · by_cases h : t < j
    · rw [if_pos h, if_pos (by omega)]
    · rw [if_neg h, if_neg (by omega)]
theorem curC_full (n : Nat) (f : Nat → Int) : curC n f n = ints ((List.range n).map f) := by
  unfold curC ints
  rw [List.map_map]
  apply List.map_congr_left
  intro t ht
  rw [if_pos (by simpa using ht)]
  rfl
theorem made_own (w : World) (z : Value) (n : Nat) (t : TypeId) : OwnV (w.alloc (.cells (madeCells #[z] n) t)) w.heap.size (List.replicate n z) := by
  have h : (w.alloc (.cells (madeCells #[z] n) t)).rowIs w.heap.size t n (fun _ => z) := (World.rowIs_made w _ n t).congr (fun j _ => by simp)
  exact rowIs_ownV h (by simp) (fun i hi => by simp [hi])
theorem curC_zero (n : Nat) (f : Nat → Int) : List.replicate n (.int .i64 0) = curC n f 0 := by
  apply List.ext_getElem <;> simp [curC]
/-- The cells of the list of rows, k of them made. -/
def topC (n k : Nat) (G : Nat → Nat) : List Value := (List.range n).map fun r => if r < k then .slice (some ⟨G r, 0, none⟩) n n else .slice none 0 0
theorem topC_len (n k : Nat) (G : Nat → Nat) : (topC n k G).length = n := by simp [topC]
theorem topC_zero (n : Nat) (G : Nat → Nat) : List.replicate n (.slice none 0 0) = topC n 0 G := by
  apply List.ext_getElem <;> simp [topC]
theorem topC_at {n r : Nat} (k : Nat) (G : Nat → Nat) (h : r < n) : (topC n k G)[r]? = some (if r < k then .slice (some ⟨G r, 0, none⟩) n n else .slice none 0 0) := by simp [topC, h]
theorem topC_set {n k g : Nat} {G : Nat → Nat} : (topC n k G).set k (.slice (some ⟨g, 0, none⟩) n n) = topC n (k + 1) (fun r => if r = k then g else G r) := by
  apply List.ext_getElem
  · simp [topC]
  · intro t h1 h2
    simp only [List.getElem_set, topC, List.getElem_map, List.getElem_range]
    by_cases e : k = t
    · subst e; simp
    · rw [if_neg e]
      by_cases h : t < k
      · rw [if_pos h, if_pos (by omega), if_neg (by omega)]
      · rw [if_neg h, if_neg (by omega)]

/-- k rows are done. -/
structure DF (w wr : World) (L : List ShipT) (k : Nat) (G : Nat → Nat) : Prop where
  below : Below w.heap.size w wr
  top : OwnV wr w.heap.size (topC L.length k G)
  rows : ∀ r, r < k → OwnV wr (G r) (ints (dutRow L r))
  above : ∀ r, r < k → w.heap.size < G r
  apart : ∀ r s, r < k → s < k → r ≠ s → G r ≠ G s
/-- k rows are done, of the next, in block g, j cells; the ship's box lies in block bo. -/
structure DI (w wr : World) (L : List ShipT) (k : Nat) (G : Nat → Nat) (g bo : Nat) (xs : List Value) (j : Nat) : Prop where
  below : Below w.heap.size w wr
  top : OwnV wr w.heap.size (topC L.length (k + 1) (fun r => if r = k then g else G r))
  rows : ∀ r, r < k → OwnV wr (G r) (ints (dutRow L r))
  above : ∀ r, r < k → w.heap.size < G r ∧ G r ≠ g
  apart : ∀ r s, r < k → s < k → r ≠ s → G r ≠ G s
  own : OwnV wr bo xs
  cur : OwnV wr g (curC L.length (dutN L k) j)
  ga : w.heap.size < g
  ne : bo ≠ g
theorem DF.start (w : World) (L : List ShipT) : DF w (w.alloc (.cells (madeCells #[.slice none 0 0] L.length) 34)) L 0 (fun _ => 0) :=
  ⟨Below.alloc1 _ _, by rw [← topC_zero]; exact made_own w _ _ _, fun r hr => by omega, fun r hr => by omega, fun r s hr => by omega⟩
theorem DI.start {w wr : World} {L : List ShipT} {k : Nat} {G : Nat → Nat} (h : DF w wr L k G) (hk : k < L.length) (cs : Array Value) (t : TypeId) :
    DI w (((wr.setCell ⟨w.heap.size, k, none⟩ (.slice (some ⟨wr.heap.size + 1, 0, none⟩) L.length L.length)).alloc (.cells cs t)).alloc (.cells (madeCells #[.int .i64 0] L.length) 3)) L k G (wr.heap.size + 1) wr.heap.size cs.toList 0 := by
  have hlt := h.top.lt
  have hto : OwnV (wr.setCell ⟨w.heap.size, k, none⟩ (.slice (some ⟨wr.heap.size + 1, 0, none⟩) L.length L.length)) w.heap.size (topC L.length (k + 1) (fun r => if r = k then wr.heap.size + 1 else G r)) := by
    rw [← topC_set]
    exact h.top.set k _ (by rw [topC_len]; exact hk)
  have hro : ∀ r, r < k → OwnV (wr.setCell ⟨w.heap.size, k, none⟩ (.slice (some ⟨wr.heap.size + 1, 0, none⟩) L.length L.length)) (G r) (ints (dutRow L r)) := fun r hr =>
    (h.rows r hr).other (a := ⟨w.heap.size, k, none⟩) (by have := h.above r hr; dsimp only; omega) _
  have hbe := h.below.setCell (p := ⟨w.heap.size, k, none⟩) (Nat.le_refl _) (.slice (some ⟨wr.heap.size + 1, 0, none⟩) L.length L.length)
  have hsz : (wr.setCell ⟨w.heap.size, k, none⟩ (.slice (some ⟨wr.heap.size + 1, 0, none⟩) L.length L.length)).heap.size = wr.heap.size := by simp [World.setCell]
  generalize wr.setCell ⟨w.heap.size, k, none⟩ (.slice (some ⟨wr.heap.size + 1, 0, none⟩) L.length L.length) = V at *
  have b1 := Below.alloc1 V (.cells cs t)
  have b2 := Below.alloc1 (V.alloc (.cells cs t)) (.cells (madeCells #[.int .i64 0] L.length) 3)
  have bb := Below.step b1 b2
  have m2 := made_own (V.alloc (.cells cs t)) (.int .i64 0) L.length 3
  simp only [World.size_alloc, hsz] at m2
  have m1 := OwnV.step (ownV_alloc V cs t) b2
  rw [hsz] at m1
  exact ⟨Below.step hbe bb, hto.step bb, fun r hr => (hro r hr).step bb, fun r hr => ⟨h.above r hr, by have := (h.rows r hr).lt; omega⟩, h.apart, m1, by rw [← curC_zero]; exact m2, by omega, by omega⟩
theorem DI.step {w wr wr' : World} {L : List ShipT} {k : Nat} {G : Nat → Nat} {g bo : Nat} {xs : List Value} {j : Nat} (h : DI w wr L k G g bo xs j) (hb : Below wr.heap.size wr wr') : DI w wr' L k G g bo xs j :=
  ⟨Below.step h.below hb, h.top.step hb, fun r hr => (h.rows r hr).step hb, h.above, h.apart, h.own.step hb, h.cur.step hb, h.ga, h.ne⟩
theorem DI.drew {w wr : World} {L : List ShipT} {k : Nat} {G : Nat → Nat} {g bo : Nat} {xs : List Value} {j : Nat} (h : DI w wr L k G g bo xs j) : DI w wr.drew L k G g bo xs j :=
  ⟨h.below.drew, h.top.drew, fun r hr => (h.rows r hr).drew, h.above, h.apart, h.own.drew, h.cur.drew, h.ga, h.ne⟩
theorem DI.skip {w wr : World} {L : List ShipT} {k : Nat} {G : Nat → Nat} {g bo : Nat} {xs : List Value} (h : DI w wr L k G g bo xs k) : DI w wr L k G g bo xs (k + 1) :=
  ⟨h.below, h.top, h.rows, h.above, h.apart, h.own, by rw [curC_skip (by simp [dutN])]; exact h.cur, h.ga, h.ne⟩
theorem DI.skip' {w wr : World} {L : List ShipT} {k : Nat} {G : Nat → Nat} {g bo : Nat} {xs : List Value} {j : Nat} (h : DI w wr L k G g bo xs j) (e : k = j) : DI w wr L k G g bo xs (j + 1) := by
  subst e; exact h.skip
theorem DI.put {w wr : World} {L : List ShipT} {k : Nat} {G : Nat → Nat} {g bo : Nat} {xs : List Value} {j : Nat} (h : DI w wr L k G g bo xs j) (hj : j < L.length) : DI w (wr.setCell ⟨g, j, none⟩ (.int .i64 (dutN L k j))) L k G g bo xs (j + 1) :=
  ⟨h.below.setCell (p := ⟨g, j, none⟩) (Nat.le_of_lt h.ga) _, h.top.other (a := ⟨g, j, none⟩) (by have := h.ga; dsimp only; omega) _, fun r hr => (h.rows r hr).other (a := ⟨g, j, none⟩) (h.above r hr).2 _, h.above, h.apart, h.own.other (a := ⟨g, j, none⟩) h.ne _,
    by rw [← curC_set]; exact h.cur.set j _ (by rw [curC_len]; exact hj), h.ga, h.ne⟩
theorem DI.done {w wr : World} {L : List ShipT} {k : Nat} {G : Nat → Nat} {g bo : Nat} {xs : List Value} (h : DI w wr L k G g bo xs L.length) : DF w wr L (k + 1) (fun r => if r = k then g else G r) := by
  refine ⟨h.below, h.top, fun r hr => ?_, fun r hr => ?_, fun r s hr hs hne => ?_⟩
  · by_cases e : r = k
    · subst e
      rw [if_pos rfl, dutRow, ← curC_full]
      exact h.cur
    · rw [if_neg e]; exact h.rows r (by omega)
  · by_cases e : r = k
    · rw [if_pos e]; exact h.ga
    · rw [if_neg e]; exact (h.above r (by omega)).1
  · by_cases e : r = k
    · rw [if_pos e, if_neg (by omega)]; exact fun e2 => (h.above s (by omega)).2 e2.symm
    · rw [if_neg e]
      by_cases e2 : s = k
      · rw [if_pos e2]; exact (h.above r (by omega)).2
      · rw [if_neg e2]; exact h.apart r s (by omega) (by omega) hne
/-- A list of rows of the call's own, or nothing. -/
def OwnRV (B : Nat) (w : World) (v : Value) (R : List (List Int)) : Prop :=
  (R = [] ∧ v = .slice none 0 0) ∨ ∃ g G C cap, v = .slice (some ⟨g, 0, none⟩) R.length cap ∧ R.length ≤ cap ∧ cap ≤ maxLen ∧ OwnRows B w g G C R
theorem DF.rowsV {w wr : World} {L : List ShipT} {G : Nat → Nat} (h : DF w wr L L.length G) (hm : L.length ≤ maxLen) : OwnRV w.heap.size wr (.slice (some ⟨w.heap.size, 0, none⟩) L.length L.length) (dutRows L) := by
  refine Or.inr ⟨w.heap.size, G, fun _ => L.length, L.length, by rw [dutRows_len], by rw [dutRows_len]; exact Nat.le_refl _, hm, Nat.le_refl _, ?_, fun r hr => ?_, fun r hr => ?_, fun r hr => ?_, fun r s hr hs hne => ?_⟩
  · have e : tops G (fun _ => L.length) (dutRows L) = topC L.length L.length G := by
      unfold tops topC
      rw [dutRows_len]
      apply List.map_congr_left
      intro r hr
      have hr' : r < L.length := by simpa using hr
      rw [dutRows_get L hr', dutRow_len, if_pos hr']
    rw [e]
    exact h.top
  · rw [dutRows_len] at hr
    rw [dutRows_get L hr]
    exact h.rows r hr
  · rw [dutRows_len] at hr
    rw [dutRows_get L hr, dutRow_len]
    exact ⟨Nat.le_refl _, hm⟩
  · rw [dutRows_len] at hr
    exact ⟨Nat.le_of_lt (h.above r hr), Nat.ne_of_gt (h.above r hr)⟩
  · rw [dutRows_len] at hr hs
    exact h.apart r s hr hs hne

theorem OwnRV.mono {B B' : Nat} {w : World} {v : Value} {R : List (List Int)} (h : OwnRV B w v R) (hB : B' ≤ B) : OwnRV B' w v R := by
  rcases h with h | ⟨g, G, C, cap, h1, h2, h3, h4⟩
  · exact Or.inl h
  · exact Or.inr ⟨g, G, C, cap, h1, h2, h3, h4.mono hB⟩

set_option maxRecDepth 10000 in
set_option maxHeartbeats 16000000 in
theorem implDuties_any (v : Value) (L : List ShipT) (w : World) (h : RShip w v L) :
    Calls Try.prog 10 #[v] w fun e w' => ∃ ao n cap, e = .returned (.tuple #[.slice ao n cap, .bool (shipsB L)]) ∧ OwnRV w.heap.size w' (.slice ao n cap) (dutiesR L) ∧ Below w.heap.size w w' := by
  have HSO := hide (shipsOk_any v L w h)
  obtain ⟨ao, cap, rfl, hl, hm, hc⟩ := h
  unfold maxLen at hm
  have HC := hide hc
  clear hc
  cases hB : shipsB L
  · have HN : Hid (dutiesR L = []) := by show _ = _; rw [dutiesR, hB]; rfl
    rw [hB] at HSO
    clear hB HC
    go_enter Try.func10, Try.ntmps10
    go_wp2_with fail
    refine (unhide HSO).mono ?_
    rintro e w1 ⟨rfl, hb⟩
    have HW := hide hb
    clear hb HSO
    go_wp2
    go_ret2
    exact ⟨none, 0, 0, rfl, Or.inl ⟨unhide HN, rfl⟩, unhide HW⟩
  have h20 : L.length ≤ 20 := by
    unfold shipsB at hB
    simp only [Bool.and_eq_true, decide_eq_true_eq] at hB
    exact hB.1
  have HR : Hid (dutiesR L = dutRows L) := by show _ = _; rw [dutiesR, hB]; rfl
  rw [hB] at HSO
  clear hB
  have hmk := run_make_row' (P := Try.prog) 30 34 (.slice none 0 0) 24 Try.underlying30 Try.info34 rfl .i64 .i64 L.length (by omega) (by omega)
  go_enter Try.func10, Try.ntmps10
  go_wp2_with fail
  refine (unhide HSO).mono ?_
  rintro e w1 ⟨rfl, hb⟩
  have HW := hide hb
  clear hb HSO
  go_wp2
  clear hmk
  go_loopg [17] L.length (fun g i wr => ∃ (k : Nat) (G : Nat → Nat), k ≤ L.length ∧ g = L.length - k ∧ i = .int .i64 k ∧ Hid (DF w1 wr L k G))
  case atStart => exact ⟨0, fun _ => 0, Nat.zero_le _, rfl, rfl, DF.start w1 L⟩
  case round =>
    obtain ⟨k, G, hk, rfl, rfl, HD⟩ := hrel
    by_cases hkn : k < L.length
    case neg =>
      have hkni : ¬ (k : Int) < L.length := by omega
      have ek : k = L.length := by omega
      have HA := hide ((show DF w1 wr L L.length G from ek ▸ unhide HD).rowsV (by unfold maxLen; omega))
      have HX := hide (unhide HD).below
      clear HD
      go_wp2
      go_ret2
      exact ⟨_, _, _, rfl, by rw [unhide HR]; exact OwnRV.mono (unhide HA) (unhide HW).size, Below.step (unhide HW) (unhide HX)⟩
    have hkni : (k : Int) < L.length := by omega
    obtain ⟨b, o, x0, x1, x2, x3, x4, x5, rfl, xc0, xc1, xc2, xc3, xc4, xc5, EX⟩ := recShipAt (unhide HC) hkn
    have HY := hide (Below.step (unhide HW) (unhide HD).below)
    have r0 := wcell3 xc0 (unhide HY)
    have r1 := wcell3 xc1 (unhide HY)
    have r2 := wcell3 xc2 (unhide HY)
    have r3 := wcell3 xc3 (unhide HY)
    have r4 := wcell3 xc4 (unhide HY)
    have r5 := wcell3 xc5 (unhide HY)
    clear xc0 xc1 xc2 xc3 xc4 xc5 HY
    have hmk := run_make_row' (P := Try.prog) 34 3 (.int .i64 0) 8 Try.underlying34 Try.info3 rfl .i64 .i64 L.length (by omega) (by omega)
    have tk : wr.cell? ⟨w1.heap.size, k, none⟩ = some (.slice none 0 0) := (unhide HD).top.cell (by rw [topC_at _ _ hkn, if_neg (by omega)])
    have tf := (unhide HD).top.frozen k
    have tl := (unhide HD).top.lt
    have HI0 := hide (DI.start (unhide HD) hkn #[.int .i64 x0, .int .i64 x1, .int .i64 x2, .int .i64 x3, .int .i64 x4, .int .i64 x5] 25)
    clear HD
    go_wp2
    clear hmk tk tf r0 r1 r2 r3 r4 r5
    generalize wr = wo at *
    go_loopg [30] L.length (fun g i wr2 => ∃ j : Nat, j ≤ L.length ∧ g = L.length - j ∧ i = .int .i64 j ∧ Hid (DI w1 wr2 L k G (wo.heap.size + 1) wo.heap.size [.int .i64 x0, .int .i64 x1, .int .i64 x2, .int .i64 x3, .int .i64 x4, .int .i64 x5] j))
    case atStart => exact ⟨0, Nat.zero_le _, rfl, rfl, HI0⟩
    case round =>
      clear HI0
      obtain ⟨j, hj, rfl, rfl, HI⟩ := hrel
      generalize wo.heap.size = bo at *
      by_cases hjn : j < L.length
      case neg =>
        have hjni : ¬ (j : Int) < L.length := by omega
        have ej : j = L.length := by omega
        have HD := hide (show DI w1 wr L k G (bo + 1) bo [.int .i64 x0, .int .i64 x1, .int .i64 x2, .int .i64 x3, .int .i64 x4, .int .i64 x5] L.length from ej ▸ unhide HI).done
        clear HI
        go_wp2
        go_roundg (L.length - (k + 1))
        case measure => omega
        case rel => exact ⟨k + 1, _, by omega, rfl, by go_num, HD⟩
      have hjni : (j : Int) < L.length := by omega
      obtain ⟨b', o', y0, y1, y2, y3, y4, y5, eb, yc0, yc1, yc2, yc3, yc4, yc5, EY⟩ := recShipAt (unhide HC) hjn
      simp only [Option.some.injEq, Addr.mk.injEq, and_true] at eb
      obtain ⟨rfl, rfl⟩ := eb
      have HY := hide (Below.step (unhide HW) (unhide HI).below)
      have s0 := wcell3 yc0 (unhide HY)
      have s1 := wcell3 yc1 (unhide HY)
      have s2 := wcell3 yc2 (unhide HY)
      have s3 := wcell3 yc3 (unhide HY)
      have s4 := wcell3 yc4 (unhide HY)
      have s5 := wcell3 yc5 (unhide HY)
      clear yc0 yc1 yc2 yc3 yc4 yc5 HY
      by_cases e : k = j
      · have d : ((k : Int) != (j : Int)) = false := by rw [e]; simp
        have HI2 : Hid (DI w1 (wr.alloc (.cells #[.int .i64 y0, .int .i64 y1, .int .i64 y2, .int .i64 y3, .int .i64 y4, .int .i64 y5] 25)) L k G (bo + 1) bo [.int .i64 x0, .int .i64 x1, .int .i64 x2, .int .i64 x3, .int .i64 x4, .int .i64 x5] (j + 1)) := hide (((unhide HI).skip' e).step (Below.alloc1 _ _))
        clear HI
        go_wp2
        go_roundg (L.length - (j + 1))
        case measure => omega
        case rel => exact ⟨j + 1, by omega, rfl, by go_num, HI2⟩
      have d : ((k : Int) != (j : Int)) = true := by simp; omega
      have HDu := hide fun W => implDuty_any x0 x1 x2 x3 x4 x5 y0 y1 y2 y3 y4 y5 W
      have HVD : Hid (duty x0 x1 x2 x3 x4 x5 y0 y1 y2 y3 y4 y5 = dutN L k j) := by show _ = _; rw [dutN, if_neg (fun h => e h.symm), dutT, unhide EX, unhide EY]
      generalize duty x0 x1 x2 x3 x4 x5 y0 y1 y2 y3 y4 y5 = D at HDu HVD
      unfold vShip at HDu
      have HI3 := hide ((unhide HI).step (Below.alloc1 wr (.cells #[.int .i64 y0, .int .i64 y1, .int .i64 y2, .int .i64 y3, .int .i64 y4, .int .i64 y5] 25)))
      have HO3 : Hid (OwnV (wr.alloc (.cells #[.int .i64 y0, .int .i64 y1, .int .i64 y2, .int .i64 y3, .int .i64 y4, .int .i64 y5] 25)) wr.heap.size [.int .i64 y0, .int .i64 y1, .int .i64 y2, .int .i64 y3, .int .i64 y4, .int .i64 y5]) := hide (ownV_alloc wr #[.int .i64 y0, .int .i64 y1, .int .i64 y2, .int .i64 y3, .int .i64 y4, .int .i64 y5] 25)
      have hgo : bo + 1 < wr.heap.size := (unhide HI).cur.lt
      clear HI
      obtain ⟨W3, eW⟩ : ∃ z, z = wr.alloc (.cells #[.int .i64 y0, .int .i64 y1, .int .i64 y2, .int .i64 y3, .int .i64 y4, .int .i64 y5] 25) := ⟨_, rfl⟩
      go_wp2_with fail
      rw [← eW] at HI3 HO3 ⊢
      clear eW s0 s1 s2 s3 s4 s5
      generalize wr.heap.size = go at *
      have pt := (unhide HI3).top.cell (i := k) (v := .slice (some ⟨bo + 1, 0, none⟩) L.length L.length) (by rw [topC_at _ _ hkn, if_pos (by omega), if_pos rfl])
      have pc := (unhide HI3).cur.cell (i := j) (v := .int .i64 0) (by rw [curC_at _ _ hjn, if_neg (by omega)])
      have pf := (unhide HI3).cur.frozen j
      have px0 := (unhide HI3).own.cell (i := 0) rfl
      have px1 := (unhide HI3).own.cell (i := 1) rfl
      have px2 := (unhide HI3).own.cell (i := 2) rfl
      have px3 := (unhide HI3).own.cell (i := 3) rfl
      have px4 := (unhide HI3).own.cell (i := 4) rfl
      have px5 := (unhide HI3).own.cell (i := 5) rfl
      have py0 := (unhide HO3).cell (i := 0) rfl
      have py1 := (unhide HO3).cell (i := 1) rfl
      have py2 := (unhide HO3).cell (i := 2) rfl
      have py3 := (unhide HO3).cell (i := 3) rfl
      have py4 := (unhide HO3).cell (i := 4) rfl
      have py5 := (unhide HO3).cell (i := 5) rfl
      have hga := (unhide HI3).ga
      have u1 : ¬ bo + 1 = w1.heap.size := by omega
      have u2 : ¬ w1.heap.size = bo + 1 := by omega
      have u3 : ¬ bo + 1 = go := by omega
      have u4 : ¬ go = bo + 1 := by omega
      go_region_held3 (fun w' => w'.cell? ⟨w1.heap.size, k, none⟩ = some (.slice (some ⟨bo + 1, 0, none⟩) L.length L.length) ∧ w'.cell? ⟨bo, 0, none⟩ = some (.int .i64 x0) ∧ w'.cell? ⟨bo, 1, none⟩ = some (.int .i64 x1) ∧ w'.cell? ⟨bo, 2, none⟩ = some (.int .i64 x2) ∧ w'.cell? ⟨bo, 3, none⟩ = some (.int .i64 x3) ∧ w'.cell? ⟨bo, 4, none⟩ = some (.int .i64 x4) ∧ w'.cell? ⟨bo, 5, none⟩ = some (.int .i64 x5) ∧ w'.cell? ⟨go, 0, none⟩ = some (.int .i64 y0) ∧ w'.cell? ⟨go, 1, none⟩ = some (.int .i64 y1) ∧ w'.cell? ⟨go, 2, none⟩ = some (.int .i64 y2) ∧ w'.cell? ⟨go, 3, none⟩ = some (.int .i64 y3) ∧ w'.cell? ⟨go, 4, none⟩ = some (.int .i64 y4) ∧ w'.cell? ⟨go, 5, none⟩ = some (.int .i64 y5)) (go_keep) (first
        | (go_at_call 7; refine (unhide HDu _).mono ?_; rintro e w9 ⟨rfl, hb⟩; have hb' : Below W3.heap.size W3 w9 := (by first | exact hb | exact ⟨hb.os, hb.tape, hb.output, hb.size, hb.block⟩); replace HI3 := hide ((unhide HI3).step hb'); replace HO3 := hide ((unhide HO3).step hb'); clear hb hb'; have nt := (unhide HI3).top.cell (i := k) (v := .slice (some ⟨bo + 1, 0, none⟩) L.length L.length) (by rw [topC_at _ _ hkn, if_pos (by omega), if_pos rfl]); have nc := (unhide HI3).cur.cell (i := j) (v := .int .i64 0) (by rw [curC_at _ _ hjn, if_neg (by omega)]); have nf := (unhide HI3).cur.frozen j; have nx0 := (unhide HI3).own.cell (i := 0) rfl; have nx1 := (unhide HI3).own.cell (i := 1) rfl; have nx2 := (unhide HI3).own.cell (i := 2) rfl; have nx3 := (unhide HI3).own.cell (i := 3) rfl; have nx4 := (unhide HI3).own.cell (i := 4) rfl; have nx5 := (unhide HI3).own.cell (i := 5) rfl; have ny0 := (unhide HO3).cell (i := 0) rfl; have ny1 := (unhide HO3).cell (i := 1) rfl; have ny2 := (unhide HO3).cell (i := 2) rfl; have ny3 := (unhide HO3).cell (i := 3) rfl; have ny4 := (unhide HO3).cell (i := 4) rfl; have ny5 := (unhide HO3).cell (i := 5) rfl))
      have HI4 := hide ((unhide HI3).put hjn)
      rw [← unhide HVD] at HI4
      clear HI3 HO3 HDu HVD
      go_wp2
      go_roundg (L.length - (j + 1))
      case measure => omega
      case rel => exact ⟨j + 1, by omega, rfl, by go_num, HI4⟩

end Go.Proofs.Ytcljgaofpeaplaa
