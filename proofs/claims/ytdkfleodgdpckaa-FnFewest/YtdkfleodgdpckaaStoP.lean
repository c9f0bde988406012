/- Stowage: spots, boxes that can be stowed. Written by wip/mksto2.py. -/
import Derived.Test.YtdkfleodgdpckaaStoN
import Derived.Test.YtdkfleodgdpckaaStoI
namespace Go.Proofs.Ytdkfleodgdpckaa
open Go.RowKit

/-- The spots of bays, in order. -/
def spT (b r : Int) : Nat → List I3
  | 0 => []
  | t + 1 => spT b r t ++ [(b, r, (t : Int))]
def spR (b : Int) (T : Nat) : Nat → List I3
  | 0 => []
  | r + 1 => spR b T r ++ spT b (r : Int) T
def spB (H : List HatchT) : Nat → List I3
  | 0 => []
  | b + 1 => spB H b ++ spR (b : Int) (H.getD b default).2.1.toNat (H.getD b default).1.toNat
def spots (H : List HatchT) : List I3 := spB H H.length
theorem spT_len (b r : Int) : ∀ t, (spT b r t).length = t
  | 0 => rfl
  | t + 1 => by rw [spT, List.length_append, spT_len b r t]; rfl
def bO (L : List BoxT) (i : Nat) : BoxT := L.getD i default
def unB (L : List BoxT) (i : Nat) : Bool := decide (∀ k, k < i → (bO L k).1 ≠ (bO L i).1)
def stwB (L : List BoxT) : Bool := decide (L.length ≤ 5 ∧ ∀ i, i < L.length → boxT (bO L i) = true ∧ unB L i = true)
theorem stwB_long {L : List BoxT} (h : ¬ L.length ≤ 5) : stwB L = false := by
  simp only [stwB, decide_eq_false_iff_not]
  exact fun h' => h h'.1
theorem stwB_bad {L : List BoxT} {i : Nat} (hi : i < L.length) (h : boxT (bO L i) = false ∨ unB L i = false) : stwB L = false := by
  simp only [stwB, decide_eq_false_iff_not]
  intro h'
  have := h'.2 i hi
  rcases h with h | h
  · rw [this.1] at h; cases h
  · rw [this.2] at h; cases h
theorem stwB_all {L : List BoxT} (h : L.length ≤ 5) (h2 : ∀ i, i < L.length → boxT (bO L i) = true ∧ unB L i = true) : stwB L = true := by
  simp only [stwB, decide_eq_true_eq]
  exact ⟨h, h2⟩
theorem unB_bad {L : List BoxT} {i k : Nat} (hk : k < i) (h : (bO L k).1 = (bO L i).1) : unB L i = false := by
  simp only [unB, decide_eq_false_iff_not]
  exact fun h' => h' k hk h
theorem unB_all {L : List BoxT} {i : Nat} (h : ∀ k, k < i → (bO L k).1 ≠ (bO L i).1) : unB L i = true := by
  simp only [unB, decide_eq_true_eq]
  exact h
/-- What is told of bays and boxes. -/
def fewV (H : List HatchT) (BX : List BoxT) : AccT := if hatB H = true ∧ stwB BX = true ∧ (spots H).length ≤ 8 then seek H (spots H) BX [] ([], false) else ([], false)
theorem fewV_not {H : List HatchT} {BX : List BoxT} (h : hatB H = false ∨ stwB BX = false ∨ 8 < (spots H).length) : fewV H BX = ([], false) := by
  rw [fewV, if_neg]
  rintro ⟨h1, h2, h3⟩
  rcases h with h | h | h
  · rw [h] at h1; cases h1
  · rw [h] at h2; cases h2
  · omega
theorem fewV_go {H : List HatchT} {BX : List BoxT} (h1 : hatB H = true) (h2 : stwB BX = true) (h3 : (spots H).length ≤ 8) : fewV H BX = seek H (spots H) BX [] ([], false) := by rw [fewV, if_pos ⟨h1, h2, h3⟩]
theorem stwB_len {L : List BoxT} (h : stwB L = true) : L.length ≤ 5 := by
  simp only [stwB, decide_eq_true_eq] at h
  exact h.1
theorem fewV_len (H : List HatchT) (BX : List BoxT) : (fewV H BX).1.length ≤ 5 := by
  unfold fewV
  split
  next h => exact seek_len H (spots H) BX [] ([], false) (by simpa using stwB_len h.2.1) (by simp)
  next => simp

set_option maxRecDepth 10000 in
set_option maxHeartbeats 6400000 in
theorem spotsOf_any (v : Value) (L : List HatchT) (w : World) (h : RHatch w v L) (hh : hatB L = true) :
    Calls Try.prog 76 #[v] w fun e w' => ∃ ao m cap, e = .returned (.slice ao m cap) ∧ RowB 29 3 e3 w.heap.size w' ao m cap (spots L) ∧ Below w.heap.size w w' := by
  obtain ⟨ao, cap, rfl, hl, hm, hc⟩ := h
  unfold maxLen at hm
  have HC := hide hc
  clear hc
  have hlen := hatB_len hh
  obtain ⟨hl1, hl6⟩ := hlen
  have HHT := hide hh
  clear hh
  have HN := hide (rowB_nil 29 3 e3 w.heap.size w)
  go_enter Try.func76, Try.ntmps76
  go_wp2
  go_loopg [3, 10] L.length (fun g ov kv wr => ∃ (k m c : Nat) (ro : Option Addr), k ≤ L.length ∧ g = L.length - k ∧ kv = .int .i64 k ∧ ov = .slice ro m c ∧ m ≤ k * 36 ∧ Hid (RowB 29 3 e3 w.heap.size wr ro m c (spB L k)) ∧ Hid (Below w.heap.size w wr))
  case atStart => exact ⟨0, 0, 0, none, Nat.zero_le _, rfl, rfl, rfl, Nat.zero_le _, unhide HN, Below.refl _ _⟩
  case round =>
    clear HN
    obtain ⟨k, m, c, ro, hk, rfl, rfl, rfl, hmk, HL, HW⟩ := hrel
    by_cases hkn : k < L.length
    · have hki : (k : Int) < L.length := by omega
      have HAT := hide (hatB_at (unhide HHT) hkn)
      obtain ⟨b, o, x0, x1, x2, x3, rfl, hc0, hc1, hc2, hc3, EX⟩ := recHatchAt (unhide HC) hkn
      have g0 := ((unhide HW).cell (lt_of_cell hc0)).trans hc0
      have g1 := ((unhide HW).cell (lt_of_cell hc1)).trans hc1
      have g2 := ((unhide HW).cell (lt_of_cell hc2)).trans hc2
      have g3 := ((unhide HW).cell (lt_of_cell hc3)).trans hc3
      have hx : (1 ≤ x0 ∧ x0 ≤ 6) ∧ 1 ≤ x1 ∧ x1 ≤ 6 := by
        have h := unhide HAT
        rw [unhide EX] at h
        simp only [hat1, Bool.and_eq_true] at h
        exact ⟨inB_true h.1.1.1, inB_true h.1.1.2⟩
      obtain ⟨⟨y0, y1⟩, y2, y3⟩ := hx
      obtain ⟨R, rfl⟩ : ∃ n : Nat, x0 = (n : Int) := ⟨x0.toNat, by omega⟩
      obtain ⟨T, rfl⟩ : ∃ n : Nat, x1 = (n : Int) := ⟨x1.toNat, by omega⟩
      have EB : Hid (spB L (k + 1) = spB L k ++ spR (k : Int) T R) := by show _ = _; rw [spB, unhide EX]; rfl
      have hA := Below.alloc1 wr (.cells #[.int .i64 (R : Int), .int .i64 (T : Int), .int .i64 x2, .int .i64 x3] 108)
      have HX := hide (ownV_alloc wr #[.int .i64 (R : Int), .int .i64 (T : Int), .int .i64 x2, .int .i64 x3] 108)
      have HW1 := hide (Below.step (unhide HW) hA)
      have HL1 : Hid (RowB 29 3 e3 w.heap.size (wr.alloc (.cells #[.int .i64 (R : Int), .int .i64 (T : Int), .int .i64 x2, .int .i64 x3] 108)) ro m c (spB L k ++ spR (k : Int) T 0)) := by
        show RowB _ _ _ _ _ _ _ _ _
        rw [spR, List.append_nil]
        exact (unhide HL).below hA
      have HL0 := HL
      clear hc0 hc1 hc2 hc3 EX HAT hA HW HL
      obtain ⟨gx, egx⟩ : ∃ g, g = wr.heap.size := ⟨_, rfl⟩
      have HNE0 : Hid (∀ g', ro = some ⟨g', 0, none⟩ → g' ≠ gx) := fun g' hg => by
        rcases (unhide HL0).parts (by decide) with ⟨e, _⟩ | ⟨g2, e, _, hlt, _⟩
        · rw [hg] at e; cases e
        · rw [hg] at e; simp only [Option.some.injEq, Addr.mk.injEq, and_true] at e; omega
      clear HL0
      rw [← egx] at HX
      have x0c := (unhide HX).cell (i := 0) rfl
      go_wp2
      rw [← egx]
      clear egx x0c
      generalize wr.alloc (.cells #[.int .i64 (R : Int), .int .i64 (T : Int), .int .i64 x2, .int .i64 x3] 108) = w2 at *
      have hgl : gx < w2.heap.size := (unhide HX).lt
      have hgw : w.heap.size ≤ gx ∨ True := Or.inr trivial
      clear hgw
      go_loopg [3, 17] R (fun g ov rv wr => ∃ (r m1 c1 : Nat) (r1 : Option Addr), r ≤ R ∧ g = R - r ∧ rv = .int .i64 r ∧ ov = .slice r1 m1 c1 ∧ m1 ≤ k * 36 + r * 6 ∧ Hid (RowB 29 3 e3 w.heap.size wr r1 m1 c1 (spB L k ++ spR (k : Int) T r)) ∧ Hid (Below w.heap.size w wr) ∧ Hid (OwnV wr gx [.int .i64 (R : Int), .int .i64 (T : Int), .int .i64 x2, .int .i64 x3]) ∧ Hid (∀ g', r1 = some ⟨g', 0, none⟩ → g' ≠ gx))
      case atStart => exact ⟨0, m, c, ro, Nat.zero_le _, rfl, rfl, rfl, by omega, unhide HL1, unhide HW1, unhide HX, unhide HNE0⟩
      case round =>
        clear HL1 HW1 HX hmk
        obtain ⟨r, m1, c1, r1, hr, rfl, rfl, rfl, hm1, HL, HW, HX, HNE⟩ := hrel
        by_cases hrn : r < R
        · have hri : (r : Int) < R := by omega
          have ER : Hid (spB L k ++ spR (k : Int) T (r + 1) = (spB L k ++ spR (k : Int) T r) ++ spT (k : Int) (r : Int) T) := by show _ = _; rw [spR, List.append_assoc]
          have x1c := (unhide HX).cell (i := 1) rfl
          have HL1 : Hid (RowB 29 3 e3 w.heap.size wr r1 m1 c1 ((spB L k ++ spR (k : Int) T r) ++ spT (k : Int) (r : Int) 0)) := by
            show RowB _ _ _ _ _ _ _ _ _
            rw [spT, List.append_nil]
            exact unhide HL
          clear HL
          go_wp2
          generalize wr = w3 at *
          go_loopg [3, 22] T (fun g ov tv wr => ∃ (t m2 c2 : Nat) (r2 : Option Addr), t ≤ T ∧ g = T - t ∧ tv = .int .i64 t ∧ ov = .slice r2 m2 c2 ∧ m2 ≤ k * 36 + r * 6 + t ∧ Hid (RowB 29 3 e3 w.heap.size wr r2 m2 c2 ((spB L k ++ spR (k : Int) T r) ++ spT (k : Int) (r : Int) t)) ∧ Hid (Below w.heap.size w wr) ∧ Hid (OwnV wr gx [.int .i64 (R : Int), .int .i64 (T : Int), .int .i64 x2, .int .i64 x3]) ∧ Hid (∀ g', r2 = some ⟨g', 0, none⟩ → g' ≠ gx))
          case atStart => exact ⟨0, m1, c1, r1, Nat.zero_le _, rfl, rfl, rfl, by omega, unhide HL1, unhide HW, unhide HX, unhide HNE⟩
          case round =>
            clear HL1 HW HX HNE x1c hm1
            obtain ⟨t, m2, c2, r2, ht, rfl, rfl, rfl, hm2, HL, HW, HX, HNE⟩ := hrel
            by_cases htn : t < T
            · have hti : (t : Int) < T := by omega
              have ET : Hid ((spB L k ++ spR (k : Int) T r) ++ spT (k : Int) (r : Int) (t + 1) = ((spB L k ++ spR (k : Int) T r) ++ spT (k : Int) (r : Int) t) ++ [((k : Int), (r : Int), (t : Int))]) := by show _ = _; rw [spT]; simp only [List.append_assoc]
              have hA2 := Below.alloc1 wr (.cells #[.int .i64 (k : Int), .int .i64 (r : Int), .int .i64 (t : Int)] 29)
              have HG := hide (ownV_alloc wr #[.int .i64 (k : Int), .int .i64 (r : Int), .int .i64 (t : Int)] 29)
              have HW1 := hide (Below.step (unhide HW) hA2)
              have HL1 := hide ((unhide HL).below hA2)
              have HX1 := hide ((unhide HX).step hA2)
              have hws := (unhide HW1).size
              have hgl1 := (unhide HX).lt
              clear hA2
              go_wp2_with (at_builtin; go_must (refine wpList_appRow tySpot _ rfl _ _ rfl w.heap.size r2 m2 c2 ((spB L k ++ spR (k : Int) T r) ++ spT (k : Int) (r : Int) t) rfl (unhide HL1) hws (by omega) wr.heap.size ((k : Int), (r : Int), (t : Int)) 1 rfl (unhide HG) ?_); intro g' cap' w4 hL hK hBg hat; have HL2 := hide hL; have HW2 := hide (onRow_below (unhide HW1) (unhide HL1) (by decide) hws hK); have HX2 := hide ((unhide HX1).kept hK (fun e => unhide HNE gx e rfl)); have HNE2 : Hid (∀ q, some (⟨g', 0, none⟩ : Addr) = some ⟨q, 0, none⟩ → q ≠ gx) := (fun q hq => by simp only [Option.some.injEq, Addr.mk.injEq, and_true] at hq; subst hq; rcases hat with e | e; exact unhide HNE _ e; simp only [World.size_alloc] at e; omega); clear hL hK hat)
              go_roundg (T - (t + 1))
              case measure => omega
              case rel =>
                refine ⟨t + 1, m2 + 1, cap', _, by omega, rfl, by go_num, rfl, by omega, ?_, unhide HW2, unhide HX2, unhide HNE2⟩
                rw [unhide ET]
                exact unhide HL2
            · have hti : ¬ (t : Int) < T := by omega
              have HL1 : Hid (RowB 29 3 e3 w.heap.size wr r2 m2 c2 (spB L k ++ spR (k : Int) T (r + 1))) := by
                have h := unhide HL
                rw [show t = T by omega] at h
                rw [unhide ER]
                exact h
              clear HL ER
              go_wp2
              go_roundg (R - (r + 1))
              case measure => omega
              case rel => exact ⟨r + 1, m2, c2, r2, by omega, rfl, by go_num, rfl, by omega, unhide HL1, unhide HW, unhide HX, unhide HNE⟩
        · have hri : ¬ (r : Int) < R := by omega
          have HL1 : Hid (RowB 29 3 e3 w.heap.size wr r1 m1 c1 (spB L (k + 1))) := by
            have h := unhide HL
            rw [show r = R by omega] at h
            rw [unhide EB]
            exact h
          clear HL EB
          go_wp2
          go_roundg (L.length - (k + 1))
          case measure => omega
          case rel => exact ⟨k + 1, m1, c1, r1, by omega, rfl, by go_num, rfl, by omega, unhide HL1, unhide HW⟩
    · have hki : ¬ (k : Int) < L.length := by omega
      have HL1 : Hid (RowB 29 3 e3 w.heap.size wr ro m c (spots L)) := by
        have h := unhide HL
        rw [show k = L.length by omega] at h
        exact h
      clear HL
      go_wp2
      go_ret
      exact ⟨ro, m, c, rfl, unhide HL1, unhide HW⟩

set_option maxRecDepth 10000 in
set_option maxHeartbeats 6400000 in
theorem areStowable_any (v : Value) (L : List BoxT) (w : World) (h : RBox w v L) :
    Calls Try.prog 75 #[v] w fun e w' => e = .returned (.bool (stwB L)) ∧ Below w.heap.size w w' := by
  obtain ⟨ao, cap, rfl, hl, hm, hc⟩ := h
  unfold maxLen at hm
  have HC := hide hc
  clear hc
  have ELong : Hid (¬ L.length ≤ 5 → stwB L = false) := stwB_long
  have EBad : Hid (∀ i, i < L.length → boxT (bO L i) = false ∨ unB L i = false → stwB L = false) := fun i => stwB_bad
  have EAll : Hid (L.length ≤ 5 → (∀ i, i < L.length → boxT (bO L i) = true ∧ unB L i = true) → stwB L = true) := stwB_all
  go_enter Try.func75, Try.ntmps75
  by_cases h5 : 5 < L.length
  · have h5i : (5 : Int) < L.length := by omega
    have E := hide (unhide ELong (by omega))
    go_wp2
    go_ret
    exact ⟨by rw [unhide E]; rfl, Below.refl _ _⟩
  have h5i : ¬ (5 : Int) < L.length := by omega
  have hl5 : L.length ≤ 5 := by omega
  replace EAll := hide (unhide EAll hl5)
  clear ELong
  go_wp2
  go_loopg [12] L.length (fun g iv wr => ∃ i : Nat, i ≤ L.length ∧ g = L.length - i ∧ iv = .int .i64 i ∧ Hid (∀ r, r < i → boxT (bO L r) = true ∧ unB L r = true) ∧ Hid (Below w.heap.size w wr))
  case atStart => exact ⟨0, Nat.zero_le _, rfl, rfl, fun r hr => by omega, Below.refl _ _⟩
  case round =>
    obtain ⟨i, hi, rfl, rfl, HA, HW⟩ := hrel
    by_cases hin : i < L.length
    · have hii : (i : Int) < L.length := by omega
      replace EBad := hide (unhide EBad i hin)
      have EUB : Hid (∀ k, k < i → (bO L k).1 = (bO L i).1 → unB L i = false) := fun k => unB_bad
      have EUA : Hid ((∀ k, k < i → (bO L k).1 ≠ (bO L i).1) → unB L i = true) := unB_all
      obtain ⟨b, o, n, wt, cl, co, fr, to, rfl, hc0, hc1, hc2, hc3, hc4, hc5, EX⟩ := recBoxAt (unhide HC) hin
      have g0 := ((unhide HW).cell (lt_of_cell hc0)).trans hc0
      have g1 := ((unhide HW).cell (lt_of_cell hc1)).trans hc1
      have g2 := ((unhide HW).cell (lt_of_cell hc2)).trans hc2
      have g3 := ((unhide HW).cell (lt_of_cell hc3)).trans hc3
      have g4 := ((unhide HW).cell (lt_of_cell hc4)).trans hc4
      have g5 := ((unhide HW).cell (lt_of_cell hc5)).trans hc5
      have EN : Hid ((bO L i).1 = n) := by show _ = _; unfold bO; rw [unhide EX]
      have EO : Hid (boxT (bO L i) = boxB n wt cl fr to) := by show _ = _; unfold bO boxT; rw [unhide EX]
      rw [unhide EN] at EUB EUA
      rw [unhide EO] at EBad
      have HA1 : Hid (boxB n wt cl fr to = true → unB L i = true → ∀ r, r < i + 1 → boxT (bO L r) = true ∧ unB L r = true) := fun h h' r hr => by
        by_cases e : r = i
        · rw [e, unhide EO]; exact ⟨h, h'⟩
        · exact unhide HA r (by omega)
      have HX := hide (ownV_alloc wr #[.string n, .int .i64 wt, .int .i64 cl, .bool co, .int .i64 fr, .int .i64 to] 27)
      have HW1 := hide (Below.step (unhide HW) (Below.alloc1 wr (.cells #[.string n, .int .i64 wt, .int .i64 cl, .bool co, .int .i64 fr, .int .i64 to] 27)))
      have Q0 := hide fun V => implBoxOk_any n wt cl co fr to V
      unfold vBox at Q0
      have hic : i ≤ cap := by omega
      have hici : (i : Int) ≤ cap := by omega
      clear hc0 hc1 hc2 hc3 hc4 hc5 EX EO EN HA HW
      generalize boxB n wt cl fr to = rb at *
      obtain ⟨gx, egx⟩ : ∃ g, g = wr.heap.size := ⟨_, rfl⟩
      rw [← egx] at HX
      go_wp2_with fail
      rw [← egx]
      clear egx
      refine (unhide Q0 _).mono ?_
      rintro e w2 ⟨rfl, hb⟩
      replace HW1 := hide (Below.step (unhide HW1) hb)
      replace HX := hide ((unhide HX).step hb)
      clear hb Q0
      cases rb with
      | false =>
        have E := hide (unhide EBad (Or.inl rfl))
        go_wp2
        go_ret
        exact ⟨by rw [unhide E]; rfl, unhide HW1⟩
      | true =>
      replace HA1 := hide (unhide HA1 rfl)
      go_wp2
      go_loopg [24] i (fun g kv wr => ∃ k : Nat, k ≤ i ∧ g = i - k ∧ kv = .int .i64 k ∧ Hid (∀ r, r < k → (bO L r).1 ≠ n) ∧ Hid (Below w.heap.size w wr) ∧ Hid (OwnV wr gx [.string n, .int .i64 wt, .int .i64 cl, .bool co, .int .i64 fr, .int .i64 to]))
      case atStart => exact ⟨0, Nat.zero_le _, rfl, rfl, fun r hr => by omega, unhide HW1, unhide HX⟩
      case round =>
        clear HW1 HX
        obtain ⟨k, hk, rfl, rfl, HA, HW, HX⟩ := hrel
        by_cases hkn : k < i
        · have hki : (k : Int) < i := by omega
          have hkl : k < L.length := by omega
          have hkli : (k : Int) < L.length := by omega
          replace EUB := hide (unhide EUB k hkn)
          obtain ⟨b', o', n', wt', cl', co', fr', to', eBO, hc0, hc1, hc2, hc3, hc4, hc5, EX⟩ := recBoxAt (unhide HC) hkl
          simp only [Option.some.injEq, Addr.mk.injEq, and_true] at eBO
          obtain ⟨rfl, rfl⟩ := eBO
          have e0 := ((unhide HW).cell (lt_of_cell hc0)).trans hc0
          have e1 := ((unhide HW).cell (lt_of_cell hc1)).trans hc1
          have e2 := ((unhide HW).cell (lt_of_cell hc2)).trans hc2
          have e3 := ((unhide HW).cell (lt_of_cell hc3)).trans hc3
          have e4 := ((unhide HW).cell (lt_of_cell hc4)).trans hc4
          have e5 := ((unhide HW).cell (lt_of_cell hc5)).trans hc5
          have EN : Hid ((bO L k).1 = n') := by show _ = _; unfold bO; rw [unhide EX]
          rw [unhide EN] at EUB
          have HA2 : Hid (n' ≠ n → ∀ r, r < k + 1 → (bO L r).1 ≠ n) := fun h r hr => by
            by_cases e : r = k
            · rw [e, unhide EN]; exact h
            · exact unhide HA r (by omega)
          have hA := Below.alloc1 wr (.cells #[.string n', .int .i64 wt', .int .i64 cl', .bool co', .int .i64 fr', .int .i64 to'] 27)
          have HW2 := hide (Below.step (unhide HW) hA)
          have HX2 := hide ((unhide HX).step hA)
          have y0 := (unhide HX2).cell (i := 0) rfl
          clear hc0 hc1 hc2 hc3 hc4 hc5 EX EN hA HW HX HA
          by_cases hn : n' = n
          · have hn1 : (n'.toList == n.toList) = true := by rw [name_eq]; simp [hn]
            have E := hide (unhide EBad (Or.inr (unhide EUB hn)))
            clear hn
            go_wp2
            go_ret
            exact ⟨by rw [unhide E]; rfl, unhide HW2⟩
          · have hn1 : (n'.toList == n.toList) = false := by rw [name_eq]; simp [hn]
            replace HA2 := hide (unhide HA2 hn)
            clear hn
            go_wp2
            go_roundg (i - (k + 1))
            case measure => omega
            case rel => exact ⟨k + 1, by omega, rfl, by go_num, unhide HA2, unhide HW2, unhide HX2⟩
        · have hki : ¬ (k : Int) < i := by omega
          have EU := unhide EUA (fun r hr => unhide HA r (by omega))
          replace HA1 := hide (unhide HA1 EU)
          clear EU
          go_wp2
          go_roundg (L.length - (i + 1))
          case measure => omega
          case rel => exact ⟨i + 1, by omega, rfl, by go_num, unhide HA1, unhide HW⟩
    · have hii : ¬ (i : Int) < L.length := by omega
      have E := hide (unhide EAll (fun r hr => unhide HA r (by omega)))
      go_wp2
      go_ret
      exact ⟨by rw [unhide E]; rfl, unhide HW⟩

theorem mayBeMended_any (c : Int) (w : World) : Calls Try.prog 79 #[.int .i64 c] w fun e w' => e = .returned (.bool (decide (c = 0 ∨ c = 4))) ∧ w' = w := by
  by_cases h0 : c = 0
  · have d1 : (c == 0) = true := by simp [h0]
    have E : Hid (decide (c = 0 ∨ c = 4) = true) := by show _ = _; simp [h0]
    clear h0
    go_enter Try.func79, Try.ntmps79
    go_wp2
    go_ret
    exact ⟨by rw [unhide E]; rfl, rfl⟩
  · have d1 : (c == 0) = false := by simp [h0]
    by_cases h4 : c = 4
    · have d2 : (c == 4) = true := by simp [h4]
      have E : Hid (decide (c = 0 ∨ c = 4) = true) := by show _ = _; simp [h4]
      clear h0 h4
      go_enter Try.func79, Try.ntmps79
      go_wp2
      go_ret
      exact ⟨by rw [unhide E]; rfl, rfl⟩
    · have d2 : (c == 4) = false := by simp [h4]
      have E : Hid (decide (c = 0 ∨ c = 4) = false) := by show _ = _; simp [h0, h4]
      clear h0 h4
      go_enter Try.func79, Try.ntmps79
      go_wp2
      go_ret
      exact ⟨by rw [unhide E]; rfl, rfl⟩

end Go.Proofs.Ytdkfleodgdpckaa
