/- Contracts of the program's lastTo, workedAhead, restFault, RestCode. -/
import Derived.Test.YtblkbonedgofiaaEnC
import Derived.Deep.RegionWith
import Derived.Deep.DeepCutAuto
namespace Go.Proofs.Ytblkbonedgofiaa
open Go.RowKit

theorem Try.infoIntE : (Try.prog.info? 3).map (fun i => (i.zero, i.size, i.bytes)) = some (some (Value.int .i64 0), 1, 8) := by kernel_rfl
theorem ints_madeE (n : Nat) : (madeCells #[Value.int .i64 0] n).toList = ints (List.replicate n 0) := by
  apply List.ext_getElem?
  intro i
  by_cases h : i < n
  · simp [madeCells, ints, h, Nat.mod_one]
  · simp [madeCells, ints, h]

def lastOf (L : List I2) : Int := if L.length = 0 then 0 else tw L (L.length - 1)
theorem lastTo_any (v : Value) (L : List I2) (w : World) (h : R2 w v L) :
    Calls Try.prog 39 #[v] w fun e w' => e = .returned (.int .i64 (lastOf L)) ∧ w' = w := by
  obtain ⟨ao, cap, rfl, hl, hm, hc⟩ := h
  unfold maxLen at hm
  have HC := hide hc
  clear hc
  by_cases h0 : L.length = 0
  · have HF : Hid (lastOf L = 0) := if_pos h0
    have h0i : (L.length : Int) = 0 := by omega
    have hb : ((L.length : Int) == 0) = true := by rw [h0i]; rfl
    go_enter Try.func39, Try.ntmps39
    go_wp2
    go_ret
    exact ⟨by rw [unhide HF]; rfl, rfl⟩
  · obtain ⟨p, ep⟩ : ∃ p, p = L.length - 1 := ⟨_, rfl⟩
    obtain ⟨b, o, x, y, rfl, hx, hy, EX⟩ := rec2At (unhide HC) (show p < L.length by omega)
    have HF : Hid (lastOf L = y) := by
      show _ = _
      rw [lastOf, if_neg h0, ← ep]; unfold tw; rw [unhide EX]
    have q1 : IntKind.i64.wrap ((L.length : Int) - 1) = (p : Int) := by rw [IntKind.wrap_i64]; omega
    have hp : (p : Int) < L.length := by omega
    have hb : ((L.length : Int) == 0) = false := by simp; exact fun e => h0 (by rw [e]; rfl)
    clear hx ep
    go_enter Try.func39, Try.ntmps39
    go_wp2
    go_ret
    exact ⟨by rw [unhide HF]; rfl, rfl⟩
theorem lastOf_watch {L : List I2} {u : Int} (hS : Sp L) (h0 : 0 ≤ u) (h1 : u ≤ 30000) : lastOf L ≤ 30000 ↔ watchOk L u := by
  constructor
  · intro h
    refine ⟨hS, h0, h1, fun i hi => ?_⟩
    rw [lastOf, if_neg (by omega)] at h
    by_cases e : i = L.length - 1
    · rw [e]; exact h
    · have h2 := hS.chain (i := i) (j := L.length - 1) (by omega) (by omega)
      obtain ⟨-, h3, -, -⟩ := hS.2 (L.length - 1) (by omega)
      omega
  · intro h
    unfold lastOf
    split
    · omega
    · exact h.2.2.2 _ (by omega)

/-- The row of minutes: the first k spells told, and of the next one those from f on that lie ahead of m. -/
structure WA (L : List I2) (k : Nat) (f m : Int) (xs : List Int) : Prop where
  len : xs.length = 30001
  zero : xs.getD 0 0 = 0
  at_ : ∀ q : Nat, q < 30000 → xs.getD (q + 1) 0 = if f ≤ (q : Int) ∧ (q : Int) < m then 1 else on1 L q k
theorem getD_rep0 (n i : Nat) : (List.replicate n (0 : Int)).getD i 0 = 0 := by
  by_cases h : i < n
  · simp [List.getD, h]
  · simp [List.getD, h]
theorem WA.start (L : List I2) : WA L 0 0 0 (List.replicate 30001 0) := by
  refine ⟨List.length_replicate, ?_, fun q hq => ?_⟩
  · exact getD_rep0 _ _
  · rw [getD_rep0, if_neg (by omega)]; rfl
theorem WA.into {L : List I2} {k : Nat} {f : Int} {xs : List Int} (h : WA L k f f xs) (g : Int) : WA L k g g xs :=
  ⟨h.len, h.zero, fun q hq => by rw [h.at_ q hq, if_neg (by omega), if_neg (by omega)]⟩
theorem WA.put {L : List I2} {k : Nat} {f : Int} {n : Nat} {xs : List Int} (h : WA L k f n xs) (hf : f ≤ n) (hn : n < 30000) : WA L k f ((n : Int) + 1) (xs.set (n + 1) 1) := by
  have hl := h.len
  refine ⟨by rw [List.length_set]; exact hl, ?_, fun q hq => ?_⟩
  · have h0 := h.zero
    simp only [List.getD] at h0 ⊢
    rw [List.getElem?_set_ne (by omega)]; exact h0
  · by_cases e : q = n
    · subst e
      rw [if_pos (by omega)]
      simp [List.getD, show q + 1 < xs.length by omega]
    · have h1 : (xs.set (n + 1) 1).getD (q + 1) 0 = xs.getD (q + 1) 0 := by simp [List.getD, List.getElem?_set_ne (show n + 1 ≠ q + 1 by omega)]
      rw [h1, h.at_ q hq]
      by_cases hc : f ≤ (q : Int) ∧ (q : Int) < n
      · rw [if_pos hc, if_pos (by omega)]
      · rw [if_neg hc, if_neg (by omega)]
theorem WA.done {L : List I2} {k : Nat} {xs : List Int} (h : WA L k (fr L k) (tw L k) xs) : WA L (k + 1) 0 0 xs :=
  ⟨h.len, h.zero, fun q hq => by rw [h.at_ q hq, if_neg (show ¬ ((0 : Int) ≤ (q : Int) ∧ (q : Int) < 0) by omega), on1]⟩
/-- The first j sums are told. -/
structure WS (L : List I2) (j : Nat) (xs : List Int) : Prop where
  len : xs.length = 30001
  sum : ∀ q : Nat, q ≤ j → xs.getD q 0 = cw L q L.length
  rest : ∀ q : Nat, j ≤ q → q < 30000 → xs.getD (q + 1) 0 = on1 L q L.length
theorem WS.start {L : List I2} {xs : List Int} (hS : Sp L) (h : WA L L.length 0 0 xs) : WS L 0 xs :=
  ⟨h.len, fun q hq => by
    have e : q = 0 := by omega
    subst e
    rw [h.zero]; exact (cw_zero hS _ (Nat.le_refl _)).symm, fun q _ hq => by rw [h.at_ q hq, if_neg (by omega)]⟩
theorem WS.next {L : List I2} {j : Nat} {xs : List Int} (hS : Sp L) (h : WS L j xs) (hj : j < 30000) : WS L (j + 1) (xs.set (j + 1) (xs.getD (j + 1) 0 + xs.getD j 0)) := by
  have hl := h.len
  refine ⟨by rw [List.length_set]; exact hl, fun q hq => ?_, fun q h1 h2 => ?_⟩
  · by_cases e : q = j + 1
    · subst e
      have h3 := cw_step hS (m := (j : Int)) L.length (Nat.le_refl _)
      have h4 := h.rest j (Nat.le_refl _) hj
      have h5 := h.sum j (Nat.le_refl _)
      have h6 : (xs.set (j + 1) (xs.getD (j + 1) 0 + xs.getD j 0)).getD (j + 1) 0 = xs.getD (j + 1) 0 + xs.getD j 0 := by simp [List.getD, show j + 1 < xs.length by omega]
      rw [h6, h4, h5, show ((j + 1 : Nat) : Int) = (j : Int) + 1 by omega, h3]
      omega
    · have h6 : (xs.set (j + 1) (xs.getD (j + 1) 0 + xs.getD j 0)).getD q 0 = xs.getD q 0 := by simp [List.getD, List.getElem?_set_ne (show j + 1 ≠ q by omega)]
      rw [h6]; exact h.sum q (by omega)
  · have h6 : (xs.set (j + 1) (xs.getD (j + 1) 0 + xs.getD j 0)).getD (q + 1) 0 = xs.getD (q + 1) 0 := by simp [List.getD, List.getElem?_set_ne (show j + 1 ≠ q + 1 by omega)]
    rw [h6]; exact h.rest q (by omega) h2

def WkAns (L : List I2) (w : World) (e : Ending) (w' : World) : Prop := ∃ (N g : Nat) (xs : List Int), (N : Int) = 30001 ∧ e = .returned (.slice (some ⟨g, 0, none⟩) N N) ∧ OwnV w' g (ints xs) ∧ WS L 30000 xs ∧ Below w.heap.size w w'
set_option maxRecDepth 100000 in
set_option maxHeartbeats 8000000 in
theorem workedAhead_any (v : Value) (L : List I2) (w : World) (h : R2 w v L) (hS : Sp L) (hT : ∀ i, i < L.length → tw L i ≤ 30000) :
    Calls Try.prog 40 #[v] w fun e w' => WkAns L w e w' := by
  obtain ⟨ao, cap, rfl, hl, hm, hc⟩ := h
  unfold maxLen at hm
  have HC := hide hc
  have HS := hide hS
  have HT := hide hT
  have hn := hS.1
  clear hc hS hT
  obtain ⟨N, hN⟩ : ∃ N : Nat, (N : Int) = 30001 := ⟨30001, rfl⟩
  have hmk := run_make_row' (P := Try.prog) 35 3 (.int .i64 0) 8 Try.underlying35 Try.infoIntE rfl .i64 .i64 N (by omega) (by omega)
  rw [hN] at hmk
  have HA0 : Hid (∃ xs, OwnV (w.alloc (.cells (madeCells #[.int .i64 0] N) 3)) w.heap.size (ints xs) ∧ WA L 0 0 0 xs) := by
    refine ⟨List.replicate N 0, ?_, ?_⟩
    · have := ownV_alloc w (madeCells #[.int .i64 0] N) 3
      rw [ints_madeE] at this
      exact this
    · obtain rfl : N = 30001 := by omega
      exact WA.start L
  have HW0 := hide (Below.alloc1 w (.cells (madeCells #[.int .i64 0] N) 3))
  obtain ⟨g, eg⟩ : ∃ g, g = w.heap.size := ⟨_, rfl⟩
  go_enter Try.func40, Try.ntmps40
  go_wp2
  clear hmk
  rw [← eg] at HA0 ⊢
  have hge : w.heap.size ≤ g := by omega
  clear eg
  go_loopg [11] L.length (fun gh i wr => Hid (Below w.heap.size w wr) ∧ ∃ k : Nat, k ≤ L.length ∧ gh = L.length - k ∧ i = .int .i64 k ∧ Hid (∃ xs, OwnV wr g (ints xs) ∧ WA L k 0 0 xs))
  case atStart => exact ⟨unhide HW0, 0, Nat.zero_le _, rfl, rfl, unhide HA0⟩
  case round =>
    clear HW0 HA0
    obtain ⟨HW, k, hk, rfl, rfl, HA⟩ := hrel
    generalize wr = w1 at *
    by_cases hkn : k < L.length
    · obtain ⟨b1, o, x, y, rfl, hx, hy, EX⟩ := rec2At (unhide HC) hkn
      have g0 := ((unhide HW).cell (lt_of_cell hx)).trans hx
      have g1 := ((unhide HW).cell (lt_of_cell hy)).trans hy
      have hki : (k : Int) < L.length := by omega
      have EF : Hid (fr L k = x) := by show _ = _; unfold fr; rw [unhide EX]
      have ET : Hid (tw L k = y) := by show _ = _; unfold tw; rw [unhide EX]
      obtain ⟨hx0, hxy, hy1, -⟩ := (unhide HS).2 k hkn
      have hy2 := unhide HT k hkn
      rw [unhide EF] at hx0 hxy
      rw [unhide ET] at hxy hy1 hy2
      have HB := hide (ownV_alloc w1 #[.int .i64 x, .int .i64 y] 30)
      have HW1 := hide (Below.step (unhide HW) (Below.alloc1 w1 (.cells #[.int .i64 x, .int .i64 y] 30)))
      have HA1 : Hid (∃ xs, OwnV (w1.alloc (.cells #[.int .i64 x, .int .i64 y] 30)) g (ints xs) ∧ WA L k x x xs) := by
        obtain ⟨xs, h1, h2⟩ := unhide HA
        exact ⟨xs, h1.step (Below.alloc1 _ _), h2.into x⟩
      have hgl : g < w1.heap.size := by
        obtain ⟨xs, h1, h2⟩ := unhide HA
        exact h1.lt
      have ca := (unhide HB).cell (i := 0) rfl
      have cb := (unhide HB).cell (i := 1) rfl
      clear hx hy EX HA
      go_wp2
      obtain ⟨G, eG⟩ : ∃ G, G = w1.heap.size := ⟨_, rfl⟩
      rw [← eG] at HB hgl ⊢
      clear ca cb eG
      go_loopg [6] (y - x).toNat (fun gh i wr => Hid (Below w.heap.size w wr) ∧ ∃ m : Nat, x ≤ m ∧ (m : Int) ≤ y ∧ gh = (y - m).toNat ∧ i = .int .i64 m ∧ Hid (OwnV wr G [.int .i64 x, .int .i64 y]) ∧ Hid (∃ xs, OwnV wr g (ints xs) ∧ WA L k x m xs))
      case atStart => exact ⟨unhide HW1, x.toNat, by omega, by omega, by rw [show ((x.toNat : Nat) : Int) = x by omega], by rw [show ((x.toNat : Nat) : Int) = x by omega], unhide HB, by rw [show ((x.toNat : Nat) : Int) = x by omega]; exact unhide HA1⟩
      case round =>
        clear HW1 HB HA1
        obtain ⟨HW2, m, hm0, hm1, rfl, rfl, HB2, HA2⟩ := hrel
        generalize wr = w2 at *
        have cb := (unhide HB2).cell (i := 1) rfl
        by_cases hmy : (m : Int) < y
        · obtain ⟨xs, hO, hWA⟩ := unhide HA2
          have hlen := hWA.len
          have hO1 := hO
          have hcell := hO.cell (ints_get xs (show m + 1 < xs.length by omega))
          have hfz := hO.frozen (m + 1)
          have hb1 : (m : Int) + 1 < 30001 := by omega
          have hgG : ¬ G = g := by omega
          have hGg : ¬ g = G := by omega
          have HN1 := hide (Below.setCell (p := ⟨g, m + 1, none⟩) (unhide HW2) (show w.heap.size ≤ g by omega) (.int .i64 1))
          have HN2 : Hid (OwnV (w2.setCell ⟨g, m + 1, none⟩ (.int .i64 1)) G [.int .i64 x, .int .i64 y]) := (unhide HB2).other (a := ⟨g, m + 1, none⟩) hgG _
          have HN3 : Hid (∃ xs, OwnV (w2.setCell ⟨g, m + 1, none⟩ (.int .i64 1)) g (ints xs) ∧ WA L k x ((m + 1 : Nat) : Int) xs) := by
            refine ⟨xs.set (m + 1) 1, ?_, by rw [show ((m + 1 : Nat) : Int) = (m : Int) + 1 by omega]; exact hWA.put hm0 (by omega)⟩
            rw [← ints_set]
            exact hO.set _ _ (by rw [ints_length]; omega)
          clear hO hWA hO1 HA2 hlen
          go_wp2
          go_roundg (y - ((m : Int) + 1)).toNat
          case measure => omega
          case rel => exact ⟨unhide HN1, m + 1, by omega, by omega, by rw [show ((m + 1 : Nat) : Int) = (m : Int) + 1 by omega], by go_num, unhide HN2, unhide HN3⟩
        · have HD : Hid (∃ xs, OwnV w2 g (ints xs) ∧ WA L (k + 1) 0 0 xs) := by
            obtain ⟨xs, h1, h2⟩ := unhide HA2
            rw [show (m : Int) = y by omega, ← unhide ET, ← unhide EF] at h2
            exact ⟨xs, h1, h2.done⟩
          clear HA2
          go_wp2
          go_roundg (L.length - (k + 1))
          case measure => omega
          case rel => exact ⟨unhide HW2, k + 1, by omega, rfl, by go_num, unhide HD⟩
    · obtain rfl : k = L.length := by omega
      have HB : Hid (∃ xs, OwnV w1 g (ints xs) ∧ WS L 0 xs) := by
        obtain ⟨xs, h1, h2⟩ := unhide HA
        exact ⟨xs, h1, WS.start (unhide HS) h2⟩
      clear HA
      go_wp2
      obtain ⟨M, hM⟩ : ∃ M : Nat, (M : Int) = 30000 := ⟨30000, rfl⟩
      go_loopg [28] M (fun gh i wr => Hid (Below w.heap.size w wr) ∧ ∃ j : Nat, j ≤ M ∧ gh = M - j ∧ i = .int .i64 j ∧ Hid (∃ xs, OwnV wr g (ints xs) ∧ WS L j xs))
      case atStart => exact ⟨unhide HW, 0, Nat.zero_le _, rfl, rfl, unhide HB⟩
      case round =>
        clear HW HB
        obtain ⟨HW2, j, hj, rfl, rfl, HA2⟩ := hrel
        generalize wr = w2 at *
        by_cases hj1 : j < M
        · obtain ⟨xs, hO, hWS⟩ := unhide HA2
          have hlen := hWS.len
          have c0 := hO.cell (ints_get xs (show j + 1 < xs.length by omega))
          have c1 := hO.cell (ints_get xs (show j < xs.length by omega))
          have hfz := hO.frozen (j + 1)
          have v0 := hWS.rest j (Nat.le_refl _) (by omega)
          have v1 := hWS.sum j (Nat.le_refl _)
          have b0 := on1_bd L j L.length
          have b1 := cw_bd (unhide HS) (m := (j : Int)) (by omega)
          rw [← v0] at b0
          rw [← v1] at b1
          have HN1 := hide fun z => Below.setCell (p := ⟨g, j + 1, none⟩) (unhide HW2) (show w.heap.size ≤ g by omega) z
          have HN3 : Hid (∃ ys, OwnV (w2.setCell ⟨g, j + 1, none⟩ (.int .i64 (xs.getD (j + 1) 0 + xs.getD j 0))) g (ints ys) ∧ WS L (j + 1) ys) := by
            refine ⟨_, ?_, hWS.next (unhide HS) (by omega)⟩
            rw [← ints_set]
            exact hO.set _ _ (by rw [ints_length]; omega)
          generalize xs.getD (j + 1) 0 = A at *
          generalize xs.getD j 0 = B at *
          have hji : (j : Int) < 30000 := by omega
          have hM1 : (M : Int) ≤ 30000 := by omega
          have hi1 : (j : Int) + 1 < N := by omega
          have hi0 : (j : Int) < N := by omega
          have HNe := hide hN
          obtain ⟨b00, b01⟩ := b0
          obtain ⟨b10, b11⟩ := b1
          have qs : IntKind.i64.wrap (A + B) = A + B := by rw [IntKind.wrap_i64]; omega
          clear hO hWS HA2 hlen v0 v1 hN hM
          go_wp2
          go_region
          all_goals
            go_wp2
            go_roundg (M - (j + 1))
            case measure => omega
            case rel => first | exact ⟨unhide HN1 _, j + 1, by omega, rfl, by go_num, unhide HN3⟩ | exact ⟨below_drewN (unhide HN1 _) _, j + 1, by omega, rfl, by go_num, unhide HN3⟩
        · have hji : ¬ (j : Int) < 30000 := by omega
          have HJ : Hid (j = 30000) := by show _ = _; omega
          go_wp2
          go_ret
          obtain ⟨xs, h1, h2⟩ := unhide HA2
          rw [unhide HJ] at h2
          exact ⟨N, g, xs, hN, rfl, h1, h2, unhide HW2⟩

/-- The code at t, told by the sums and the latest rest. -/
def faultR (L : List I2) (t r : Int) : Int :=
  if t < 1440 then 0 else if 840 < cw L t L.length - cw L (t - 1440) L.length then 2 else if 10080 ≤ t ∧ 5460 < cw L t L.length - cw L (t - 10080) L.length then 3 else if r - 360 < t - 1440 then 4 else 0
theorem faultR_eq {L : List I2} {t r : Int} (hS : Sp L) (h : Rested L t r) : faultR L t r = faultC L t := by
  unfold faultR faultC
  by_cases h1 : t < 1440
  · rw [if_pos h1, if_pos h1]
  · rw [if_neg h1, if_neg h1, wk_cw hS (by omega) _ (Nat.le_refl _), wk_cw hS (by omega) _ (Nat.le_refl _), h.split hS (by omega)]
    congr 3
    rw [decide_eq_false_iff_not, eq_iff_iff]
    omega

set_option maxRecDepth 1000000 in
set_option maxHeartbeats 8000000 in
theorem restFault_any (L : List I2) (N g T : Nat) (r : Int) (xs : List Int) (w : World) (hS : Sp L) (hN : (N : Int) = 30001) (hO : OwnV w g (ints xs)) (hW : WS L 30000 xs) (hT : (T : Int) ≤ 30000) (hr0 : 0 ≤ r) (hr1 : r ≤ 30000) :
    Calls Try.prog 41 #[.slice (some ⟨g, 0, none⟩) N N, .int .i64 T, .int .i64 r] w fun e w' => e = .returned (.int .i64 (faultR L T r)) ∧ Below w.heap.size w w' := by
  have hlen := hW.len
  have HE : Hid (faultR L T r = if (T : Int) < 1440 then 0 else if 840 < cw L T L.length - cw L ((T : Int) - 1440) L.length then 2 else if 10080 ≤ (T : Int) ∧ 5460 < cw L T L.length - cw L ((T : Int) - 10080) L.length then 3 else if r - 360 < (T : Int) - 1440 then 4 else 0) := rfl
  by_cases h1 : (T : Int) < 1440
  · rw [if_pos h1] at HE
    clear hlen hO hW hN
    go_enter Try.func41, Try.ntmps41
    go_wp2
    go_ret
    exact ⟨by rw [unhide HE]; rfl, Below.refl _ _⟩
  obtain ⟨P, hP⟩ : ∃ P : Nat, (P : Int) = (T : Int) - 1440 := ⟨T - 1440, by omega⟩
  have cT := hO.cell (ints_get xs (show T < xs.length by omega))
  have cP := hO.cell (ints_get xs (show P < xs.length by omega))
  rw [hW.sum T (by omega)] at cT
  rw [hW.sum P (by omega)] at cP
  have bT := cw_bd hS (m := (T : Int)) (by omega)
  have bP := cw_bd hS (m := (P : Int)) (by omega)
  have qP : IntKind.i64.wrap ((T : Int) - 1440) = (P : Int) := by rw [IntKind.wrap_i64]; omega
  rw [if_neg h1, ← hP] at HE
  have HQ : Hid (10080 ≤ (T : Int) → ∃ (Q : Nat) (z : Int), (Q : Int) = (T : Int) - 10080 ∧ w.cell? ⟨g, Q, none⟩ = some (.int .i64 z) ∧ 0 ≤ z ∧ z ≤ 10000000000 ∧ z = cw L Q L.length) := fun h2 => by
    refine ⟨T - 10080, _, by omega, hO.cell (ints_get xs (show T - 10080 < xs.length by omega)), ?_⟩
    rw [hW.sum (T - 10080) (by omega)]
    have := cw_bd hS (m := ((T - 10080 : Nat) : Int)) (by omega)
    exact ⟨this.1, this.2, rfl⟩
  have hiT : (T : Int) < N := by omega
  have hiP : (P : Int) < N := by omega
  obtain ⟨A, eA⟩ : ∃ A, A = cw L T L.length := ⟨_, rfl⟩
  obtain ⟨B, eB⟩ : ∃ B, B = cw L P L.length := ⟨_, rfl⟩
  rw [← eA] at cT bT HE
  rw [← eB] at cP bP HE
  have HB := hide hP
  clear hlen hO hW hN eA eB hP
  obtain ⟨bT0, bT1⟩ := bT
  obtain ⟨bP0, bP1⟩ := bP
  by_cases h2 : 840 < A - B
  · rw [if_pos h2] at HE
    go_enter Try.func41, Try.ntmps41
    go_wp2
    go_quiet (fail)
    go_wp2
    go_ret
    first | exact ⟨by rw [unhide HE]; rfl, below_drewN (Below.refl _ _) _⟩ | exact ⟨by rw [unhide HE]; rfl, below_drewN (below_drewN (Below.refl _ _) _) _⟩
  rw [if_neg h2] at HE
  have q4 : IntKind.i64.wrap (r - 360) = r - 360 := by rw [IntKind.wrap_i64]; omega
  by_cases h3 : 10080 ≤ (T : Int)
  · obtain ⟨Q, C, hQ, cQ, bQ0, bQ1, eC⟩ := unhide HQ h3
    have qQ : IntKind.i64.wrap ((T : Int) - 10080) = (Q : Int) := by rw [IntKind.wrap_i64]; omega
    have hiQ : (Q : Int) < N := by omega
    rw [← hQ, ← eC] at HE
    have hP := unhide HB
    clear hQ eC HQ
    by_cases h4 : 5460 < A - C
    · rw [if_pos ⟨h3, h4⟩] at HE
      clear hP
      go_enter Try.func41, Try.ntmps41
      go_wp2
      go_quiet (fail)
      go_wp2
      go_quiet (fail)
      go_wp2
      go_ret
      first | exact ⟨by rw [unhide HE]; rfl, below_drewN (Below.refl _ _) _⟩ | exact ⟨by rw [unhide HE]; rfl, below_drewN (below_drewN (Below.refl _ _) _) _⟩
    rw [if_neg (fun h => h4 h.2)] at HE
    by_cases h5 : r - 360 < (P : Int)
    · rw [if_pos h5] at HE
      clear hP
      go_enter Try.func41, Try.ntmps41
      go_wp2
      go_quiet (fail)
      go_wp2
      go_quiet (fail)
      go_wp2
      go_ret
      first | exact ⟨by rw [unhide HE]; rfl, below_drewN (Below.refl _ _) _⟩ | exact ⟨by rw [unhide HE]; rfl, below_drewN (below_drewN (Below.refl _ _) _) _⟩
    · rw [if_neg h5] at HE
      clear hP
      go_enter Try.func41, Try.ntmps41
      go_wp2
      go_quiet (fail)
      go_wp2
      go_quiet (fail)
      go_wp2
      go_ret
      first | exact ⟨by rw [unhide HE]; rfl, below_drewN (Below.refl _ _) _⟩ | exact ⟨by rw [unhide HE]; rfl, below_drewN (below_drewN (Below.refl _ _) _) _⟩
  · rw [if_neg (fun h => h3 h.1)] at HE
    have H3 : Hid ((T : Int) < 10080) := by show _ < _; omega
    clear HQ h3
    by_cases h5 : r - 360 < (P : Int)
    · rw [if_pos h5] at HE
      go_enter Try.func41, Try.ntmps41
      go_wp2
      go_quiet (fail)
      go_upto_region 5 with (fail)
      have h3' := unhide H3
      have d3 : decide ((10080 : Int) ≤ (T : Int)) = false := by rw [decide_eq_false_iff_not]; omega
      have d3' : decide (10080 ≤ T) = false := by rw [decide_eq_false_iff_not]; omega
      go_quiet (fail)
      go_wp2
      go_ret
      first | exact ⟨by rw [unhide HE]; rfl, below_drewN (Below.refl _ _) _⟩ | exact ⟨by rw [unhide HE]; rfl, below_drewN (below_drewN (Below.refl _ _) _) _⟩
    · rw [if_neg h5] at HE
      go_enter Try.func41, Try.ntmps41
      go_wp2
      go_quiet (fail)
      go_upto_region 5 with (fail)
      have h3' := unhide H3
      have d3 : decide ((10080 : Int) ≤ (T : Int)) = false := by rw [decide_eq_false_iff_not]; omega
      have d3' : decide (10080 ≤ T) = false := by rw [decide_eq_false_iff_not]; omega
      go_quiet (fail)
      go_wp2
      go_ret
      first | exact ⟨by rw [unhide HE]; rfl, below_drewN (Below.refl _ _) _⟩ | exact ⟨by rw [unhide HE]; rfl, below_drewN (below_drewN (Below.refl _ _) _) _⟩

end Go.Proofs.Ytblkbonedgofiaa
