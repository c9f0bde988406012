/- Books: contracts of the laws' own eqBill, eqBillS, eqBook, markBillS, heldBillS, markBook, heldBook. No statement about the program stands here. -/
import Derived.Test.YtdcbonfhakdhhaaBlX
namespace Go.Proofs.Ytdcbonfhakdhhaa
open Go.RowKit

theorem recG_set {α : Type} [Inhabited α] {n : Nat} {enc : α → Nat → Value} (M : List α) {i j : Nat} (hj : j < n) (hi : i < M.length) (y : α) (h : ∀ j', j' < n → j' ≠ j → enc y j' = enc (M.getD i default) j') :
    (recCells n enc M).set (i * n + j) (enc y j) = recCells n enc (M.set i y) := by
  have hn : 0 < n := by omega
  apply List.ext_getElem?
  intro q
  by_cases hq : q < M.length * n
  · have hd : q / n < M.length := by rw [Nat.div_lt_iff_lt_mul hn]; exact hq
    have hm := Nat.mod_lt q hn
    have hqe : q / n * n + q % n = q := by rw [Nat.mul_comm]; exact Nat.div_add_mod q n
    have e1 : (recCells n enc (M.set i y))[q]? = some (enc ((M.set i y).getD (q / n) default) (q % n)) := by
      have := recCells_get (enc := enc) (L := M.set i y) (n := n) (i := q / n) (j := q % n) (by rw [List.length_set]; exact hd) hm
      rwa [hqe] at this
    have e2 : (recCells n enc M)[q]? = some (enc (M.getD (q / n) default) (q % n)) := by
      have := recCells_get (enc := enc) (L := M) (n := n) (i := q / n) (j := q % n) hd hm
      rwa [hqe] at this
    rw [e1]
    obtain ⟨p1, p2⟩ := rec_place (i := i) hj
    by_cases hqi : q = i * n + j
    · subst hqi
      rw [List.getElem?_set_self (by rw [recCells_length]; exact hq), p1, p2]
      simp [List.getD, hi]
    · rw [List.getElem?_set_ne (fun e => hqi e.symm), e2]
      by_cases hdi : q / n = i
      · rw [hdi, List.getD_eq_getElem?_getD (l := M.set i y), List.getElem?_set_self hi]
        have hne : q % n ≠ j := fun e => hqi (by rw [← hqe, hdi, e])
        rw [← h (q % n) hm hne]
        rfl
      · rw [List.getD_eq_getElem?_getD (l := M.set i y), List.getElem?_set_ne (fun e => hdi e.symm), ← List.getD_eq_getElem?_getD]
  · rw [List.getElem?_eq_none (by rw [List.length_set, recCells_length]; omega), List.getElem?_eq_none (by rw [recCells_length, List.length_set]; omega)]

set_option maxHeartbeats 1600000 in
theorem eqBill_any (id : Int) (sh od : ByteArray) (mn : Int) (na : Option Addr) (nn nc : Nat) (na' : Option Addr) (nn' nc' : Nat) (H : List ByteArray) (w : World) (hN : SIn w (.slice na nn nc) H) (hN' : SIn w (.slice na' nn' nc') H) :
    Calls Try.prog 82 #[vBill id sh od mn (.slice na nn nc), vBill id sh od mn (.slice na' nn' nc')] w fun e w' => e = .returned (.bool true) ∧ Below w.heap.size w w' := by
  have A := Below.step (Below.alloc1 w (.cells #[.int .i64 id, .string sh, .string od, .int .i64 mn, .slice na nn nc] 40)) (Below.alloc1 _ (.cells #[.int .i64 id, .string sh, .string od, .int .i64 mn, .slice na' nn' nc'] 40))
  have HE := hide (eqStringS_o _ _ H _ (hN.below A) (hN'.below A))
  have HW := hide A
  clear A hN hN'
  unfold vBill
  go_enter Try.func82, Try.ntmps82
  go_wp2_with fail
  refine (unhide HE).mono ?_
  rintro e w2 ⟨rfl, hb⟩
  replace HW := hide (Below.step (unhide HW) hb)
  clear hb HE
  go_wp2
  go_ret
  exact ⟨rfl, unhide HW⟩

set_option maxHeartbeats 1600000 in
theorem eqBillS_any (v v' : Value) (L : List BlT) (w : World) (h : BlsIn w v L) (h' : BlsIn w v' L) :
    Calls Try.prog 53 #[v, v'] w fun e w' => e = .returned (.bool true) ∧ Below w.heap.size w w' := by
  obtain ⟨ao, cap, rfl, hl, hm, hc⟩ := h
  obtain ⟨ao', cap', rfl, _, _, hc'⟩ := h'
  unfold maxLen at hm
  have HC := hide hc
  have HC' := hide hc'
  clear hc hc'
  go_enter Try.func53, Try.ntmps53
  go_wp2
  go_loopg [5] L.length (fun g i wr => Below w.heap.size w wr ∧ ∃ k : Nat, k ≤ L.length ∧ g = L.length - k ∧ i = .int .i64 k)
  case atStart => exact ⟨Below.refl _ _, 0, Nat.zero_le _, rfl, rfl⟩
  case round =>
    obtain ⟨hW, k, hk, rfl, rfl⟩ := hrel
    by_cases hkn : k < L.length
    · obtain ⟨b, o, na, nc, rfl, hc0, hc1, hc2, hc3, hc4, hr⟩ := unhide HC k hkn
      obtain ⟨b', o', na', nc', rfl, hd0, hd1, hd2, hd3, hd4, hr'⟩ := unhide HC' k hkn
      have S1 := hide fun x' : Gr wr => eqBill_any (L.getD k default).1 (L.getD k default).2.1 (L.getD k default).2.2.1 (L.getD k default).2.2.2.1 na _ nc na' _ nc' (L.getD k default).2.2.2.2 x'.val ((hr.below hW).below x'.ok) ((hr'.below hW).below x'.ok)
      generalize L.getD k default = z at hc0 hc1 hc2 hc3 hc4 hd0 hd1 hd2 hd3 hd4 S1
      obtain ⟨id, sh, od, mn, H⟩ := z
      dsimp only at hc0 hc1 hc2 hc3 hc4 hd0 hd1 hd2 hd3 hd4 S1
      have r0 := fun x' : Gr wr => gr_cell (wcell3 hc0 hW) x'
      have r0' := fun x' : Gr wr => gr_cell (wcell3 hd0 hW) x'
      have r1 := fun x' : Gr wr => gr_cell (wcell3 hc1 hW) x'
      have r1' := fun x' : Gr wr => gr_cell (wcell3 hd1 hW) x'
      have r2 := fun x' : Gr wr => gr_cell (wcell3 hc2 hW) x'
      have r2' := fun x' : Gr wr => gr_cell (wcell3 hd2 hW) x'
      have r3 := fun x' : Gr wr => gr_cell (wcell3 hc3 hW) x'
      have r3' := fun x' : Gr wr => gr_cell (wcell3 hd3 hW) x'
      have r4 := fun x' : Gr wr => gr_cell (wcell3 hc4 hW) x'
      have r4' := fun x' : Gr wr => gr_cell (wcell3 hd4 hW) x'
      unfold vBill at S1
      have HW := hide hW
      have gsome := gr_some wr
      clear hc0 hc1 hc2 hc3 hc4 hd0 hd1 hd2 hd3 hd4 hW hr hr'
      go_wp2
      refine wp_region_grown (by kernel_rfl) (by kernel_rfl) ?_
      repeat (go_big_quiet_step (fail))
      go_big_quiet_want
      go_big_quiet_op
      go_big_quiet_call (exact calls_grown (unhide S1 _))
      repeat (go_big_quiet_step (fail))
      refine wpQuiet_nil ?_
      intro w1 hw1
      obtain ⟨z', hz⟩ := hw1
      have hb1 : Below wr.heap.size wr w1 := hz ▸ z'.ok
      clear hz gsome
      go_wp2
      go_roundg (L.length - (k + 1))
      case measure => omega
      case rel => exact ⟨Below.step (unhide HW) hb1, k + 1, by omega, rfl, by go_num⟩
    · go_wp2
      go_ret
      exact ⟨rfl, hW⟩

set_option maxHeartbeats 1600000 in
theorem eqBook_any (bv fv bv' fv' : Value) (b : BkT) (w : World) (h : BkIn w bv fv b) (h' : BkIn w bv' fv' b) :
    Calls Try.prog 19 #[vBook bv fv, vBook bv' fv'] w fun e w' => e = .returned (.bool true) ∧ Below w.heap.size w w' := by
  have hx := h
  have hy := h'
  obtain ⟨⟨ao, cap, rfl, -⟩, ⟨fo, fcap, rfl, -⟩⟩ := hx
  obtain ⟨⟨ao', cap', rfl, -⟩, ⟨fo', fcap', rfl, -⟩⟩ := hy
  have A1 := Below.alloc1 w (.cells #[.slice ao b.1.length cap, .slice fo b.2.length fcap] 27)
  have A := Below.step A1 (Below.alloc1 _ (.cells #[.slice ao' b.1.length cap', .slice fo' b.2.length fcap'] 27))
  have HO := hide ((ownV_alloc w #[.slice ao b.1.length cap, .slice fo b.2.length fcap] 27).step (Below.alloc1 _ (.cells #[.slice ao' b.1.length cap', .slice fo' b.2.length fcap'] 27)))
  have HP := hide (ownV_alloc (w.alloc (.cells #[.slice ao b.1.length cap, .slice fo b.2.length fcap] 27)) #[.slice ao' b.1.length cap', .slice fo' b.2.length fcap'] 27)
  simp only [World.size_alloc] at HP
  have HE := hide (eqBillS_any _ _ b.1 _ (h.1.below A) (h'.1.below A))
  have HF := hide fun V (hV : Below w.heap.size w V) => eqIntS_o _ _ b.2 V (h.2.below hV) (h'.2.below hV)
  have HW := hide A
  clear A A1 h h'
  unfold vBook
  go_enter Try.func19, Try.ntmps19
  go_wp2_with fail
  refine (unhide HE).mono ?_
  rintro e w2 ⟨rfl, hb⟩
  replace HW := hide (Below.step (unhide HW) hb)
  have c1 := ((unhide HO).step hb).cell (i := 1) rfl
  have d1 := ((unhide HP).step hb).cell (i := 1) rfl
  clear hb HE HO HP
  go_wp2_with fail
  refine (unhide HF _ (unhide HW)).mono ?_
  rintro e w3 ⟨rfl, hb⟩
  replace HW := hide (Below.step (unhide HW) hb)
  clear hb HF
  go_wp2
  go_ret
  exact ⟨rfl, unhide HW⟩

/-- A bill that is marked, from q on. -/
def mk1 (x : EBl) (q : Int) : EBl := ((q, mt (q + 1), mt (q + 1 + 1), q + 1 + 1 + 1, sMarks (q + 1 + 1 + 1 + 1) x.1.2.2.2.2.length), x.2)
def mkE : List EBl → Int → List EBl
  | [], _ => []
  | x :: E, k => mk1 x k :: mkE E (k + 4 + x.1.2.2.2.2.length)
def endE : List EBl → Int → Int
  | [], k => k
  | x :: E, k => endE E (k + 4 + x.1.2.2.2.2.length)
theorem mkE_len (E : List EBl) : ∀ k, (mkE E k).length = E.length := by
  induction E with
  | nil => intro k; rfl
  | cons a E ih => intro k; simp [mkE, ih]
theorem mkE_get (E : List EBl) : ∀ (k : Int) (i : Nat), i < E.length → (mkE E k).getD i default = mk1 (E.getD i default) (endE (E.take i) k) := by
  induction E with
  | nil => intro k i hi; simp at hi
  | cons a E ih =>
    intro k i hi
    cases i with
    | zero => simp [mkE, endE, List.getD]
    | succ i =>
      have := ih (k + 4 + a.1.2.2.2.2.length) i (by simpa using hi)
      simp only [List.getD] at this ⊢
      simp [mkE, endE, this]
theorem endE_snoc (E : List EBl) : ∀ (k : Int) (i : Nat), i < E.length → endE (E.take (i + 1)) k = endE (E.take i) k + 4 + ((E.getD i default).1.2.2.2.2.length : Int) := by
  induction E with
  | nil => intro k i hi; simp at hi
  | cons a E ih =>
    intro k i hi
    cases i with
    | zero => simp [endE, List.getD]
    | succ i =>
      have := ih (k + 4 + a.1.2.2.2.2.length) i (by simpa using hi)
      simp only [List.getD] at this ⊢
      simp [endE, this]
theorem endE_bd (E : List EBl) (hl : ∀ i, i < E.length → (E.getD i default).1.2.2.2.2.length ≤ 1048576) (k : Int) : ∀ i, i ≤ E.length → k ≤ endE (E.take i) k ∧ endE (E.take i) k ≤ k + (i : Int) * 1048580 := by
  intro i
  induction i with
  | zero => intro _; simp [endE]
  | succ i ih =>
    intro hi
    obtain ⟨h1, h2⟩ := ih (by omega)
    rw [endE_snoc E k i (by omega)]
    have := hl i (by omega)
    refine ⟨by omega, ?_⟩
    have e : ((i + 1 : Nat) : Int) * 1048580 = (i : Int) * 1048580 + 1048580 := by omega
    omega
theorem endE_top {E : List EBl} (hs : E.length ≤ 1048576) (hl : ∀ i, i < E.length → (E.getD i default).1.2.2.2.2.length ≤ 1048576) {k : Int} (h0 : 0 ≤ k) (h1 : k ≤ 1073741824) : 0 ≤ endE E k ∧ endE E k ≤ 1099585028096000 := by
  have h := endE_bd E hl k E.length (Nat.le_refl _)
  rw [List.take_length] at h
  have : (E.length : Int) * 1048580 ≤ 1048576 * 1048580 := Int.mul_le_mul_of_nonneg_right (by omega) (by omega)
  omega
/-- Behind k of the marks. -/
def midE (E : List EBl) (k0 : Int) (k : Nat) : List EBl := (mkE E k0).take k ++ E.drop k
theorem midE_len (E : List EBl) (k0 : Int) {k : Nat} (hk : k ≤ E.length) : (midE E k0 k).length = E.length := by
  simp [midE, mkE_len]
  omega
theorem midE_at (E : List EBl) (k0 : Int) {k : Nat} (hk : k < E.length) : (midE E k0 k).getD k default = E.getD k default := by
  have hl : ((mkE E k0).take k).length = k := by rw [List.length_take, mkE_len]; omega
  simp only [midE, List.getD]
  rw [List.getElem?_append_right (by omega), hl]
  simp
theorem midE_set (E : List EBl) (k0 : Int) {k : Nat} (hk : k < E.length) : (midE E k0 k).set k ((mkE E k0).getD k default) = midE E k0 (k + 1) := by
  have hl : ((mkE E k0).take k).length = k := by rw [List.length_take, mkE_len]; omega
  have hm : k < (mkE E k0).length := by rw [mkE_len]; exact hk
  unfold midE
  rw [List.set_append_right _ _ (by omega), hl, Nat.sub_self, List.take_add_one, List.getElem?_eq_getElem hm, getD_lt hm, List.append_assoc]
  congr 1
  rw [List.drop_eq_getElem_cons hk]
  rfl

theorem OwnH.put {A : Nat → Prop} {w w' : World} {g k : Nat} {M : List EBl} (h : OwnH A w g M) (hk : k < M.length) {y : EBl} (hy : y.2 = (M.getD k default).2) (hl : y.1.2.2.2.2.length = (M.getD k default).1.2.2.2.2.length)
    (hK : Kept (fun b => b = g ∨ b = (M.getD k default).2.1) w w') (ho : OwnV w' (M.getD k default).2.1 (strs y.1.2.2.2.2)) : OwnH A w' g (M.set k y) := by
  rw [getD_lt hk] at *
  have hne : ∀ i (hi : i < M.length), i ≠ k → M[i].2.1 ≠ M[k].2.1 := fun i hi hik e => by
    have hp := List.pairwise_iff_getElem.1 h.apart
    rcases Nat.lt_or_gt_of_ne hik with hx | hx
    · exact hp i k (by simpa using hi) (by simpa using hk) hx (by simpa using e)
    · exact hp k i (by simpa using hk) (by simpa using hi) hx (by simpa using e.symm)
  refine ⟨fun x hx => ?_, ?_⟩
  · obtain ⟨i, hi, rfl⟩ := List.mem_iff_getElem.1 hx
    rw [List.length_set] at hi
    rw [List.getElem_set]
    obtain ⟨p1, p2, p3, p4, p5⟩ := h.own M[k] (List.getElem_mem _)
    by_cases e : k = i
    · rw [if_pos e, hy]
      exact ⟨ho, p2, p3, by rw [hl]; exact p4, p5⟩
    · rw [if_neg e]
      obtain ⟨q1, q2, q3, q4, q5⟩ := h.own M[i] (List.getElem_mem _)
      exact ⟨q1.kept hK (fun e' => e'.elim q3 (hne i hi (fun e'' => e e''.symm))), q2, q3, q4, q5⟩
  · have : (M.set k y).map (·.2.1) = M.map (·.2.1) := by
      apply List.ext_getElem
      · simp
      · intro i h1 h2
        rw [List.getElem_map, List.getElem_map, List.getElem_set]
        split
        · rename_i e; subst e; rw [hy]
        · rfl
    rw [this]
    exact h.apart
/-- The blocks of bills of the call's own. -/
def BlB (g : Nat) (E : List EBl) (b : Nat) : Prop := b = g ∨ ∃ x ∈ E, b = x.2.1
theorem midE_blk {E : List EBl} {k0 : Int} {k : Nat} (hk : k ≤ E.length) : (midE E k0 k).map (·.2.1) = E.map (·.2.1) := by
  induction k with
  | zero => simp [midE]
  | succ k ih =>
    rw [← midE_set E k0 (by omega), mkE_get E k0 k (by omega)]
    rw [← ih (by omega)]
    apply List.ext_getElem
    · simp
    · intro i h1 h2
      have hi : i < (midE E k0 k).length := by simpa using h1
      rw [List.getElem_map, List.getElem_map, List.getElem_set]
      split
      · rename_i e; subst e
        have := midE_at E k0 (k := k) (by omega)
        rw [getD_lt hi] at this
        rw [this]
        rfl
      · rfl

theorem OwnV.putBl {w : World} {g k j : Nat} {M : List EBl} {x : EBl} (h : OwnV w g (recCells 5 eBl M)) (hk : k < M.length) (hx : M.getD k default = x) (hj : j < 5) (y : EBl) (hy : ∀ j', j' < 5 → j' ≠ j → eBl y j' = eBl x j') :
    OwnV (w.setCell ⟨g, k * 5 + j, none⟩ (eBl y j)) g (recCells 5 eBl (M.set k y)) ∧ (M.set k y).getD k default = y ∧ k < (M.set k y).length := by
  have h1 := h.set (k * 5 + j) (eBl y j) (by rw [recCells_length]; omega)
  rw [recG_set M hj hk y (by rw [hx]; exact hy)] at h1
  exact ⟨h1, by simp [List.getD, hk], by simpa using hk⟩
theorem OwnV.blCells {w : World} {g k : Nat} {M : List EBl} {xi : Int} {xs xo : ByteArray} {xm : Int} {H : List ByteArray} {gb cb : Nat} (h : OwnV w g (recCells 5 eBl M)) (hk : k < M.length) (hx : M.getD k default = ((xi, xs, xo, xm, H), gb, cb)) :
    w.cell? ⟨g, k * 5, none⟩ = some (.int .i64 xi) ∧ w.cell? ⟨g, k * 5 + 1, none⟩ = some (.string xs) ∧ w.cell? ⟨g, k * 5 + 2, none⟩ = some (.string xo) ∧ w.cell? ⟨g, k * 5 + 3, none⟩ = some (.int .i64 xm) ∧ w.cell? ⟨g, k * 5 + 4, none⟩ = some (.slice (some ⟨gb, 0, none⟩) H.length cb) := by
  have cl := fun (j : Nat) (hj : j < 5) => h.cell (recCells_get (enc := eBl) hk hj)
  rw [hx] at cl
  exact ⟨cl 0 (by omega), cl 1 (by omega), cl 2 (by omega), cl 3 (by omega), cl 4 (by omega)⟩

theorem recCells_len_eq (M : List EBl) (k : Nat) {a : Int} {b c : ByteArray} {d : Int} {H H' : List ByteArray} {g cp : Nat} (h : H'.length = H.length) : recCells 5 eBl (M.set k ((a, b, c, d, H'), g, cp)) = recCells 5 eBl (M.set k ((a, b, c, d, H), g, cp)) := by
  by_cases hk : k < M.length
  · apply List.ext_getElem?
    intro i
    by_cases hi : i < M.length * 5
    · have h1 : i / 5 < M.length := by omega
      have e : ∀ L : List EBl, L.length = M.length → (recCells 5 eBl L)[i]? = some (eBl (L.getD (i / 5) default) (i % 5)) := fun L hL => by
        have := recCells_get (enc := eBl) (L := L) (n := 5) (i := i / 5) (j := i % 5) (by omega) (by omega)
        rwa [show i / 5 * 5 + i % 5 = i by omega] at this
      rw [e _ (by simp), e _ (by simp)]
      by_cases hik : k = i / 5
      · subst hik
        simp only [List.getD, List.getElem?_set_self h1, Option.getD_some]
        have : i % 5 = 0 ∨ i % 5 = 1 ∨ i % 5 = 2 ∨ i % 5 = 3 ∨ i % 5 = 4 := by omega
        rcases this with e | e | e | e | e <;> rw [e] <;> simp [eBl, h]
      · simp only [List.getD, List.getElem?_set_ne hik]
    · rw [List.getElem?_eq_none (by rw [recCells_length, List.length_set]; omega), List.getElem?_eq_none (by rw [recCells_length, List.length_set]; omega)]
  · rw [List.set_eq_of_length_le (by omega), List.set_eq_of_length_le (by omega)]

set_option maxRecDepth 10000 in
set_option maxHeartbeats 3200000 in
theorem markBillS_any (A : Nat → Prop) (g cap : Nat) (E : List EBl) (k0 : Int) (w : World) (hO : OwnV w g (recCells 5 eBl E)) (hH : OwnH A w g E) (hs : E.length ≤ 1048576) (hl : ∀ i, i < E.length → (E.getD i default).1.2.2.2.2.length ≤ 1048576) (hk0 : 0 ≤ k0) (hk1 : k0 ≤ 1073741824) :
    Calls Try.prog 54 #[.slice (some ⟨g, 0, none⟩) E.length cap, .int .i64 k0] w fun e w' => e = .returned (.int .i64 (endE E k0)) ∧ Kept (BlB g E) w w' ∧ OwnV w' g (recCells 5 eBl (mkE E k0)) ∧ OwnH A w' g (mkE E k0) := by
  have HL := hide hl
  have HE := hide (endE_bd E hl k0)
  have HM : Hid (Kept (BlB g E) w w ∧ OwnV w g (recCells 5 eBl (midE E k0 0)) ∧ OwnH A w g (midE E k0 0)) := ⟨Kept.refl _ _, by simpa [midE] using hO, by simpa [midE] using hH⟩
  clear hl hO hH
  go_enter Try.func54, Try.ntmps54
  go_wp2
  go_loopg [1, 5] E.length (fun gg kv iv wr => ∃ k : Nat, k ≤ E.length ∧ gg = E.length - k ∧ iv = .int .i64 k ∧ kv = .int .i64 (endE (E.take k) k0) ∧ Hid (Kept (BlB g E) w wr ∧ OwnV wr g (recCells 5 eBl (midE E k0 k)) ∧ OwnH A wr g (midE E k0 k)))
  case atStart => exact ⟨0, Nat.zero_le _, rfl, rfl, by simp [endE], HM⟩
  case round =>
    obtain ⟨k, hk, rfl, rfl, rfl, HU⟩ := hrel
    clear HM
    have hbd := unhide HE k hk
    by_cases hkn : k < E.length
    · have HNX := hide (midE_set E k0 hkn)
      have HMG := hide (mkE_get E k0 k hkn)
      have HAT := hide (midE_at E k0 hkn)
      have HML := hide (midE_len E k0 hk)
      have HBK := hide (midE_blk (E := E) (k0 := k0) hk)
      have hSN := endE_snoc E k0 k hkn
      have hUl := unhide HL k hkn
      obtain ⟨q, hq⟩ : ∃ q, q = endE (E.take k) k0 := ⟨_, rfl⟩
      rw [← hq] at hbd hSN HMG ⊢
      have HQ := hide hq
      have hq0 : 0 ≤ q := by omega
      have hq1 : q ≤ 1073741824 + 1048576 * 1048580 := by
        have : (k : Int) * 1048580 ≤ 1048576 * 1048580 := Int.mul_le_mul_of_nonneg_right (by omega) (by omega)
        omega
      obtain ⟨hKp, hO, hH⟩ := unhide HU
      obtain ⟨M, eM⟩ : ∃ M, M = midE E k0 k := ⟨_, rfl⟩
      rw [← eM] at HNX HAT HML hO hH HBK
      have hkM : k < M.length := by rw [unhide HML]; exact hkn
      obtain ⟨x, ex⟩ : ∃ x, x = E.getD k default := ⟨_, rfl⟩
      rw [← ex] at HAT HMG hSN hUl
      have hxm : M.getD k default = x := unhide HAT
      have hxE : x ∈ E := by rw [ex, getD_lt hkn]; exact List.getElem_mem _
      have hxM : x ∈ M := by rw [← hxm, getD_lt hkM]; exact List.getElem_mem _
      obtain ⟨q1, q2, q3, q4, q5⟩ := hH.own x hxM
      have hK1 : BlB g E x.2.1 := Or.inr ⟨x, hxE, rfl⟩
      have hK0 : BlB g E g := Or.inl rfl
      obtain ⟨⟨xi, xs, xo, xm, H⟩, gb, cb⟩ := x
      dsimp only at q1 q2 q3 q4 q5 hSN hUl hK1
      obtain ⟨c0, -⟩ := hO.blCells hkM hxm
      have hf := hO.frozen
      have HO := hide hO
      have HG := hide q1
      have HKK := hide hKp
      have HHH := hide hH
      have HKW : Hid (Kept (fun b => b = g ∨ b = gb) wr wr) := Kept.refl _ _
      have T1 := hide fun V => markText_any (q + 1) V (by omega)
      have T2 := hide fun V => markText_any (q + 1 + 1) V (by omega)
      have HXM := hide hxm
      have HKM := hide hkM
      have HKM0 := hide hkM
      have HXM0 := hide hxm
      have EM := hide eM
      have HSN := hide hSN
      clear hO q1 hKp hH hkM HU hxm eM hq hbd hSN ex HAT
      have hki : (k : Int) < E.length := by omega
      go_wp2_with fail
      refine (unhide T1 _).mono ?_
      rintro e w1 ⟨rfl, hb⟩
      obtain ⟨o0, x0, kk0⟩ := (unhide HO).putBl (unhide HKM) (unhide HXM) (j := 0) (by omega) ((q, xs, xo, xm, H), gb, cb) (fun j' h1 h2 => by
        have h3 : j' = 0 ∨ j' = 1 ∨ j' = 2 ∨ j' = 3 ∨ j' = 4 := by omega
        rcases h3 with rfl | rfl | rfl | rfl | rfl <;> first | rfl | exact absurd rfl h2)
      replace HG := hide (farN (unhide HG) q3 (k * 5 + 0) (.int .i64 q))
      replace HKW := hide ((unhide HKW).setCell (p := ⟨g, k * 5 + 0, none⟩) (Or.inl rfl) (.int .i64 q))
      replace HO := hide (o0.step hb)
      replace HG := hide ((unhide HG).step hb)
      replace HKW := hide ((unhide HKW).trans (kept_of_below hb))
      replace HXM := hide x0
      replace HKM := hide kk0
      clear x0 kk0
      clear hb o0 c0 hf T1
      obtain ⟨t1, ht1⟩ : ∃ t, t = mt (q + 1) := ⟨_, rfl⟩
      rw [← ht1]
      have HT1 := hide ht1
      clear ht1
      obtain ⟨-, c1, -⟩ := (unhide HO).blCells (unhide HKM) (unhide HXM)
      have hf := (unhide HO).frozen
      go_wp2_with fail
      refine (unhide T2 _).mono ?_
      rintro e w2 ⟨rfl, hb⟩
      obtain ⟨o1, x1, kk1⟩ := (unhide HO).putBl (unhide HKM) (unhide HXM) (j := 1) (by omega) ((q, t1, xo, xm, H), gb, cb) (fun j' h1 h2 => by
        have h3 : j' = 0 ∨ j' = 1 ∨ j' = 2 ∨ j' = 3 ∨ j' = 4 := by omega
        rcases h3 with rfl | rfl | rfl | rfl | rfl <;> first | rfl | exact absurd rfl h2)
      replace HG := hide (farN (unhide HG) q3 (k * 5 + 1) (.string t1))
      replace HKW := hide ((unhide HKW).setCell (p := ⟨g, k * 5 + 1, none⟩) (Or.inl rfl) (.string t1))
      replace HO := hide (o1.step hb)
      replace HG := hide ((unhide HG).step hb)
      replace HKW := hide ((unhide HKW).trans (kept_of_below hb))
      replace HXM := hide x1
      replace HKM := hide kk1
      clear x1 kk1
      clear hb o1 c1 hf T2
      obtain ⟨t2, ht2⟩ : ∃ t, t = mt (q + 1 + 1) := ⟨_, rfl⟩
      rw [← ht2]
      have HT2 := hide ht2
      clear ht2
      obtain ⟨-, -, c2, c3, c4⟩ := (unhide HO).blCells (unhide HKM) (unhide HXM)
      have hf := (unhide HO).frozen
      obtain ⟨o2, x2, kk2⟩ := (unhide HO).putBl (unhide HKM) (unhide HXM) (j := 2) (by omega) ((q, t1, t2, xm, H), gb, cb) (fun j' h1 h2 => by
        have h3 : j' = 0 ∨ j' = 1 ∨ j' = 2 ∨ j' = 3 ∨ j' = 4 := by omega
        rcases h3 with rfl | rfl | rfl | rfl | rfl <;> first | rfl | exact absurd rfl h2)
      replace HG := hide (farN (unhide HG) q3 (k * 5 + 2) (.string t2))
      replace HKW := hide ((unhide HKW).setCell (p := ⟨g, k * 5 + 2, none⟩) (Or.inl rfl) (.string t2))
      replace HO := hide o2
      replace HXM := hide x2
      replace HKM := hide kk2
      clear x2 kk2
      clear o2
      obtain ⟨o3, x3, kk3⟩ := (unhide HO).putBl (unhide HKM) (unhide HXM) (j := 3) (by omega) ((q, t1, t2, q + 1 + 1 + 1, H), gb, cb) (fun j' h1 h2 => by
        have h3 : j' = 0 ∨ j' = 1 ∨ j' = 2 ∨ j' = 3 ∨ j' = 4 := by omega
        rcases h3 with rfl | rfl | rfl | rfl | rfl <;> first | rfl | exact absurd rfl h2)
      replace HG := hide (farN (unhide HG) q3 (k * 5 + 3) (.int .i64 (q + 1 + 1 + 1)))
      replace HKW := hide ((unhide HKW).setCell (p := ⟨g, k * 5 + 3, none⟩) (Or.inl rfl) (.int .i64 (q + 1 + 1 + 1)))
      replace HO := hide o3
      replace HXM := hide x3
      replace HKM := hide kk3
      clear x3 kk3
      clear o3
      have HMN := hide fun c => markStr_any gb c H (q + 1 + 1 + 1 + 1) _ (unhide HG) hUl (by omega) (by omega)
      go_wp2_with fail
      refine (unhide HMN _).mono ?_
      rintro e w3 ⟨rfl, hkp, hon⟩
      have hgg : ¬ g = gb := fun e => q3 e.symm
      replace HO := hide ((unhide HO).kept hkp hgg)
      have hKW := (unhide HKW).trans (hkp.mono (T' := fun b => b = g ∨ b = gb) (fun b _ e => Or.inr e))
      have HF : Hid (Kept (BlB g E) w w3 ∧ OwnV w3 g (recCells 5 eBl (midE E k0 (k + 1))) ∧ OwnH A w3 g (midE E k0 (k + 1))) := by
        have e1 : mk1 ((xi, xs, xo, xm, H), gb, cb) q = ((q, t1, t2, q + 1 + 1 + 1, sMarks (q + 1 + 1 + 1 + 1) H.length), gb, cb) := by
          rw [unhide HT1, unhide HT2]; rfl
        rw [← unhide HNX, unhide HMG, e1]
        refine ⟨(unhide HKK).trans (hKW.mono fun b _ e => e.elim (fun e => e ▸ hK0) (fun e => e ▸ hK1)), ?_, (unhide HHH).put (unhide HKM0) (by rw [unhide HXM0]) (by rw [unhide HXM0]; simp [marksL_len]) (by rw [unhide HXM0]; exact hKW) (by rw [unhide HXM0]; exact hon)⟩
        have := unhide HO
        simp only [List.set_set] at this
        rw [recCells_len_eq (H := H) M k (by simp [marksL_len])]
        exact this
      clear hkp hon HMN hKW
      go_wp2
      go_roundg (E.length - (k + 1))
      case measure => omega
      case rel => exact ⟨k + 1, by omega, rfl, by go_num, by rw [unhide HSN]; congr 1; omega, HF⟩
    · have hkk : k = E.length := by omega
      subst hkk
      rw [List.take_length]
      obtain ⟨h1, h2, h3⟩ := unhide HU
      have e : midE E k0 E.length = mkE E k0 := by simp [midE, List.take_of_length_le (Nat.le_of_eq (mkE_len E k0))]
      rw [e] at h2 h3
      clear HU
      go_wp2
      go_ret
      exact ⟨rfl, h1, h2, h3⟩

theorem bills_mk {E : List EBl} {k0 : Int} {k : Nat} (hk : k < E.length) : (bills (mkE E k0)).getD k default = (mk1 (E.getD k default) (endE (E.take k) k0)).1 := by
  have hm : k < (mkE E k0).length := by rw [mkE_len]; exact hk
  rw [← mkE_get E k0 k hk, getD_lt (show k < (bills (mkE E k0)).length by rw [List.length_map]; exact hm), getD_lt hm]
  simp

set_option maxRecDepth 10000 in
set_option maxHeartbeats 3200000 in
theorem heldBillS_any (v : Value) (E : List EBl) (k0 : Int) (w : World) (h : BlsIn w v (bills (mkE E k0))) (hs : E.length ≤ 1048576) (hl : ∀ i, i < E.length → (E.getD i default).1.2.2.2.2.length ≤ 1048576) (hk0 : 0 ≤ k0) (hk1 : k0 ≤ 1073741824) :
    Calls Try.prog 55 #[v, .int .i64 k0] w fun e w' => e = .returned (.int .i64 (endE E k0)) ∧ Below w.heap.size w w' := by
  have h' := h
  obtain ⟨ao, cap, rfl, hlc, hm, -⟩ := h'
  have hml : (bills (mkE E k0)).length = E.length := by rw [List.length_map, mkE_len]
  rw [hml] at h hlc ⊢
  unfold maxLen at hm
  have HC := hide h
  have HL := hide hl
  have HE := hide (endE_bd E hl k0)
  have HML := hide hml
  clear h hl hml
  go_enter Try.func55, Try.ntmps55
  go_wp2
  go_loopg [1, 5] E.length (fun gg kv iv wr => Below w.heap.size w wr ∧ ∃ k : Nat, k ≤ E.length ∧ gg = E.length - k ∧ iv = .int .i64 k ∧ kv = .int .i64 (endE (E.take k) k0))
  case atStart => exact ⟨Below.refl _ _, 0, Nat.zero_le _, rfl, rfl, by simp [endE]⟩
  case round =>
    obtain ⟨hW, k, hk, rfl, rfl, rfl⟩ := hrel
    have hbd := unhide HE k hk
    by_cases hkn : k < E.length
    · obtain ⟨b, o, na, nc, id, sh, od, mn, H, m, rfl, hc0, hc1, hc2, hc3, hc4, hr, EX, EM, hm0⟩ := (unhide HC).at (k := k) (by rw [unhide HML]; exact hkn)
      have ex := (bills_mk (k0 := k0) hkn).symm.trans (unhide EX)
      have hkl := unhide HL k hkn
      have HSN := hide (endE_snoc E k0 k hkn)
      obtain ⟨q, hq⟩ : ∃ q, q = endE (E.take k) k0 := ⟨_, rfl⟩
      rw [← hq] at ex hbd HSN ⊢
      have hq0 : 0 ≤ q := by omega
      have hq1 : q ≤ 1073741824 + 1048576 * 1048580 := by
        have : (k : Int) * 1048580 ≤ 1048576 * 1048580 := Int.mul_le_mul_of_nonneg_right (by omega) (by omega)
        omega
      obtain ⟨n, en⟩ : ∃ n, n = (E.getD k default).1.2.2.2.2.length := ⟨_, rfl⟩
      rw [← en] at hkl HSN
      simp only [mk1, ← en, Prod.mk.injEq] at ex
      obtain ⟨rfl, rfl, rfl, rfl, rfl⟩ := ex
      have hmn : n = m := by rw [← unhide EM, marksL_len]
      subst hmn
      clear hq en
      have g0 := wcell3 hc0 hW
      have HHS := hide fun V (hV : Below w.heap.size w V) => heldStr_any _ n (q + 1 + 1 + 1 + 1) V (hr.below hV) hkl (by omega) (by omega)
      have T1 := hide fun V => markText_any (q + 1) V (by omega)
      have T2 := hide fun V => markText_any (q + 1 + 1) V (by omega)
      have HW := hide hW
      have C1 := hide hc1
      have C2 := hide hc2
      have C3 := hide hc3
      have C4 := hide hc4
      clear hW hc0 hc1 hc2 hc3 hc4 hr EX EM hbd
      generalize mt (q + 1) = t1 at *
      generalize mt (q + 1 + 1) = t2 at *
      have hki : (k : Int) < E.length := by omega
      have d0 : (q != q) = false := by simp
      have S1 := hide fun x' : Gr wr => unhide T1 x'.val
      have r1 := fun x' : Gr wr => gr_cell (wcell3 (unhide C1) (unhide HW)) x'
      have gsome := gr_some wr
      go_wp2
      refine wp_region_grown (by kernel_rfl) (by kernel_rfl) ?_
      repeat (go_big_quiet_step (fail))
      go_big_quiet_want
      go_big_quiet_op
      go_big_quiet_call (exact calls_grown (unhide S1 _))
      repeat (go_big_quiet_step (fail))
      refine wpQuiet_nil ?_
      intro w1 hw1
      obtain ⟨z', hz⟩ := hw1
      have hb1 : Below wr.heap.size wr w1 := hz ▸ z'.ok
      replace HW := hide (Below.step (unhide HW) hb1)
      clear hz gsome S1 r1 g0 hb1 T1 z'
      have S1 := hide fun x' : Gr w1 => unhide T2 x'.val
      have r1 := fun x' : Gr w1 => gr_cell (wcell3 (unhide C2) (unhide HW)) x'
      have gsome := gr_some w1
      go_wp2
      refine wp_region_grown (by kernel_rfl) (by kernel_rfl) ?_
      repeat (go_big_quiet_step (fail))
      go_big_quiet_want
      go_big_quiet_op
      go_big_quiet_call (exact calls_grown (unhide S1 _))
      repeat (go_big_quiet_step (fail))
      refine wpQuiet_nil ?_
      intro w2 hw2
      obtain ⟨z', hz⟩ := hw2
      have hb2 : Below w1.heap.size w1 w2 := hz ▸ z'.ok
      replace HW := hide (Below.step (unhide HW) hb2)
      clear hz gsome S1 r1 hb2 T2 z'
      have g3 := wcell3 (unhide C3) (unhide HW)
      have g4 := wcell3 (unhide C4) (unhide HW)
      have d3 : (q + 1 + 1 + 1 != q + 1 + 1 + 1) = false := by simp
      go_wp2_with fail
      refine (unhide HHS _ (unhide HW)).mono ?_
      rintro e w3 ⟨rfl, hb⟩
      replace HW := hide (Below.step (unhide HW) hb)
      clear HHS hb g3 g4
      have hneg : decide (q + 1 + 1 + 1 + 1 + (n : Int) < 0) = false := by rw [decide_eq_false_iff_not]; omega
      go_wp2
      go_roundg (E.length - (k + 1))
      case measure => omega
      case rel => exact ⟨unhide HW, k + 1, by omega, rfl, by go_num, by rw [unhide HSN]; congr 1; omega⟩
    · have hkk : k = E.length := by omega
      subst hkk
      rw [List.take_length]
      go_wp2
      go_ret
      exact ⟨rfl, hW⟩

theorem markBillS_nil (ao : Option Addr) (cap : Nat) (k : Int) (w : World) :
    Calls Try.prog 54 #[.slice ao 0 cap, .int .i64 k] w fun e w' => e = .returned (.int .i64 k) ∧ w = w' := by
  go_enter Try.func54, Try.ntmps54
  go_wp2
  go_loopg [1, 5] 0 (fun _ kv iv wr => w = wr ∧ iv = .int .i64 0 ∧ kv = .int .i64 k)
  case atStart => exact ⟨rfl, rfl, rfl⟩
  case round =>
    obtain ⟨rfl, rfl, rfl⟩ := hrel
    go_wp2
    go_ret
    exact ⟨rfl, rfl⟩

theorem markBillS_v (A : Nat → Prop) (v : Value) (E : List EBl) (w : World) (h : OwnE A w v E) (hs : E.length ≤ 1048576) (hl : ∀ i, i < E.length → (E.getD i default).1.2.2.2.2.length ≤ 1048576) :
    Calls Try.prog 54 #[v, .int .i64 1] w fun e w' => e = .returned (.int .i64 (endE E 1)) ∧ Kept (fun b => E ≠ [] ∧ ∃ g cp, v = .slice (some ⟨g, 0, none⟩) E.length cp ∧ BlB g E b) w w' ∧ OwnE A w' v (mkE E 1) := by
  obtain ⟨ao, cap, rfl, h1, h2, h3⟩ := h
  by_cases hne : E = []
  · subst hne
    refine (markBillS_nil ao cap 1 w).mono ?_
    rintro e w' ⟨rfl, rfl⟩
    exact ⟨rfl, Kept.refl _ _, ao, cap, rfl, h1, h2, fun h => absurd rfl h⟩
  · obtain ⟨g, rfl, hA, hO, hH⟩ := h3 hne
    refine (markBillS_any A g cap E 1 w hO hH hs hl (by omega) (by omega)).mono ?_
    rintro e w' ⟨rfl, hK, hO', hH'⟩
    exact ⟨rfl, hK.mono fun b _ hb => ⟨hne, g, cap, rfl, hb⟩, _, cap, by rw [mkE_len], by rw [mkE_len]; exact h1, h2, fun _ => ⟨g, rfl, hA, hO', hH'⟩⟩

/-- What a marked book's freed numbers are. -/
abbrev mkF (E : List EBl) (F : List Int) : List Int := marks (endE E 1) F.length
theorem mkE_blk (E : List EBl) : ∀ k x, x ∈ mkE E k → ∃ y ∈ E, x.2 = y.2 := by
  induction E with
  | nil => intro k x hx; simp [mkE] at hx
  | cons a E ih =>
    intro k x hx
    simp only [mkE, List.mem_cons] at hx
    rcases hx with rfl | hx
    · exact ⟨a, by simp, rfl⟩
    · obtain ⟨y, hy, e⟩ := ih _ x hx
      exact ⟨y, by simp [hy], e⟩
theorem mkE_nil {E : List EBl} {k : Int} (h : mkE E k ≠ []) : E ≠ [] := fun e => h (by rw [e]; rfl)

set_option maxHeartbeats 1600000 in
theorem markBook_v (A : Nat → Prop) (bv fv : Value) (E : List EBl) (F : List Int) (w : World) (h : OwnB A w bv fv E F) (hb : Bd (bills E, F)) :
    Calls Try.prog 20 #[vBook bv fv, .int .i64 1] w fun e w' => e = .returned (.int .i64 (endE E 1 + (F.length : Int))) ∧ Kept A w w' ∧ OwnB A w' bv fv (mkE E 1) (mkF E F) := by
  have hs : E.length ≤ 1048576 := by have := hb.1; simpa using this
  have hl : ∀ i, i < E.length → (E.getD i default).1.2.2.2.2.length ≤ 1048576 := fun i hi => by
    rw [getD_lt hi]
    exact hb.2.2 _ (List.mem_map_of_mem (List.getElem_mem hi))
  have hfl : F.length ≤ 1048576 := hb.2.1
  have h' := h
  obtain ⟨⟨ao, cap, rfl, h1, h2, h3⟩, ⟨fo, fcap, rfl, f1, f2, f3⟩⟩ := h'
  have A1 := Below.alloc1 w (.cells #[.slice ao E.length cap, .slice fo F.length fcap] 27)
  have O1 := ownV_alloc w #[.slice ao E.length cap, .slice fo F.length fcap] 27
  have hok := h.step A1
  have HB := hide hok
  have HM := hide (markBillS_v A _ E _ hok.bls hs hl)
  have HEB := hide (endE_top hs hl (k := 1) (by omega) (by omega))
  have HA := hide A1
  have HO := hide O1
  have HBl : Hid (∀ b, (E ≠ [] ∧ ∃ g cp, (Value.slice ao E.length cap) = .slice (some ⟨g, 0, none⟩) E.length cp ∧ BlB g E b) → A b ∧ b < w.heap.size) := fun b hb => by
    obtain ⟨hne, g, cp, e, hbl⟩ := hb
    obtain ⟨g', e', hA, hO, hH⟩ := h3 hne
    rw [e'] at e
    simp only [Value.slice.injEq, Option.some.injEq, Addr.mk.injEq, and_true, true_and] at e
    obtain ⟨rfl, -⟩ := e
    rcases hbl with rfl | ⟨x, hx, rfl⟩
    · exact ⟨hA, hO.lt⟩
    · exact ⟨(hH.own x hx).2.1, (hH.own x hx).1.lt⟩
  have HFA : Hid (F ≠ [] → ∃ f, fo = some ⟨f, 0, none⟩ ∧ ∀ b, (E ≠ [] ∧ ∃ g cp, (Value.slice ao E.length cap) = .slice (some ⟨g, 0, none⟩) E.length cp ∧ BlB g E b) → b ≠ f) := fun hne => by
    obtain ⟨f, e, hA, hO, hx1, hx2⟩ := f3 hne
    refine ⟨f, e, fun b hb => ?_⟩
    obtain ⟨hne', g, cp, e', hbl⟩ := hb
    rcases hbl with rfl | ⟨x, hx, rfl⟩
    · rintro rfl
      exact hx2 hne' 0 cp e'
    · exact hx1 x hx
  clear A1 O1 hok h h3 f3 hl
  unfold vBook
  go_enter Try.func20, Try.ntmps20
  go_wp2_with fail
  refine (unhide HM).mono ?_
  rintro e w2 ⟨rfl, hK, hE⟩
  have c1 := ((unhide HO).kept hK (fun e => by have := (unhide HBl _ e).2; omega)).cell (i := 1) rfl
  have hsz := (unhide HA).size
  have hKA : Kept A w w2 := (kept_of_below (unhide HA)).trans (hK.mono fun b _ e => (unhide HBl b e).1)
  have HKA := hide hKA
  have HE2 := hide hE
  clear HM hKA hE
  obtain ⟨q, hq⟩ : ∃ q, q = endE E 1 := ⟨_, rfl⟩
  have hqb := unhide HEB
  rw [← hq] at hqb ⊢
  have HQ := hide hq
  clear hq
  by_cases hF : F = []
  · have HMI := hide (markIntS_any fo fcap [] q 0 w2 (fun h => absurd rfl h) (by simp) (by omega) (by omega))
    subst hF
    go_wp2_with fail
    refine (unhide HMI).mono ?_
    rintro e w3 ⟨rfl, hk, _⟩
    have hk' : Kept (fun _ => False) w2 w3 := hk.mono fun b _ hb => absurd rfl hb.2
    go_wp2
    go_ret
    refine ⟨by show Ending.returned (.int .i64 q) = _; rw [← unhide HQ]; simp, (unhide HKA).trans (hk'.mono fun _ _ h => h.elim), ⟨(unhide HE2).kept hk' (fun _ _ h => h), fo, fcap, by simp [mkF, marks_len], by simp [mkF, marks_len], f2, fun h => absurd (by simp [mkF, marks]) h⟩⟩
  · obtain ⟨ao', cap', e9, _, _, h9⟩ := (unhide HB).frd
    simp only [Value.slice.injEq] at e9
    obtain ⟨rfl, -, rfl⟩ := e9
    obtain ⟨f, rfl, hAf, hOf, hx1, hx2⟩ := h9 hF
    obtain ⟨f', e', hap⟩ := unhide HFA hF
    simp only [Option.some.injEq, Addr.mk.injEq, and_true] at e'
    subst e'
    have hOf2 := hOf.kept hK (fun e => hap f e rfl)
    have HMI := hide (markIntS_any (some ⟨f, 0, none⟩) fcap F q f w2 (fun _ => ⟨rfl, hOf2⟩) hfl (by omega) (by omega))
    have HX1 := hide hx1
    have HX2 := hide hx2
    clear hOf hOf2 h9 hap hx1 hx2 hK
    go_wp2_with fail
    refine (unhide HMI).mono ?_
    rintro e w3 ⟨rfl, hk, ho⟩
    have ho' := ho hF
    go_wp2
    go_ret
    refine ⟨by show Ending.returned (.int .i64 (q + (F.length : Int))) = _; rw [← unhide HQ], (unhide HKA).trans (hk.mono fun b _ h => h.1 ▸ hAf), ⟨?_, some ⟨f, 0, none⟩, fcap, by rw [marks_len], by rw [marks_len]; exact f1, f2, fun _ => ⟨f, rfl, hAf, by rw [mkF, ← unhide HQ]; exact ho', fun x hx => ?_, fun hne g cp => by rw [mkE_len]; exact unhide HX2 (mkE_nil hne) g cp⟩⟩⟩
    · obtain ⟨a5, c5, e5, p1, p2, p3⟩ := unhide HE2
      refine ⟨a5, c5, e5, p1, p2, fun hne => ?_⟩
      obtain ⟨g5, e6, hA5, hO5, hH5⟩ := p3 hne
      have hgf : g5 ≠ f := fun e7 => unhide HX2 (mkE_nil hne) 0 c5 (by rw [e5, e6, e7, mkE_len])
      exact ⟨g5, e6, hA5, hO5.kept hk (fun e => hgf e.1), hH5.kept hk (fun x hx e => by
        obtain ⟨y, hy, ey⟩ := mkE_blk E 1 x hx
        exact unhide HX1 y hy (by rw [← ey]; exact e.1))⟩
    · obtain ⟨y, hy, ey⟩ := mkE_blk E 1 x hx
      rw [ey]
      exact unhide HX1 y hy

set_option maxHeartbeats 1600000 in
theorem heldBook_v (bv fv : Value) (E : List EBl) (F : List Int) (w : World) (h : BkIn w bv fv (bills (mkE E 1), mkF E F)) (hb : Bd (bills E, F)) :
    Calls Try.prog 21 #[vBook bv fv, .int .i64 1] w fun e w' => e = .returned (.int .i64 (endE E 1 + (F.length : Int))) ∧ Below w.heap.size w w' := by
  have hs : E.length ≤ 1048576 := by have := hb.1; simpa using this
  have hl : ∀ i, i < E.length → (E.getD i default).1.2.2.2.2.length ≤ 1048576 := fun i hi => by
    rw [getD_lt hi]
    exact hb.2.2 _ (List.mem_map_of_mem (List.getElem_mem hi))
  have hfl : F.length ≤ 1048576 := hb.2.1
  obtain ⟨h1, h2⟩ := h
  have h1' := h1
  have h2' := h2
  obtain ⟨ao, cap, rfl, -⟩ := h1'
  obtain ⟨fo, fcap, rfl, -⟩ := h2'
  dsimp only at h1 h2 ⊢
  have A1 := Below.alloc1 w (.cells #[.slice ao (bills (mkE E 1)).length cap, .slice fo (mkF E F).length fcap] 27)
  have O1 := ownV_alloc w #[.slice ao (bills (mkE E 1)).length cap, .slice fo (mkF E F).length fcap] 27
  have hEB := endE_top hs hl (k := 1) (by omega) (by omega)
  have HH := hide (heldBillS_any _ E 1 _ (h1.below A1) hs hl (by omega) (by omega))
  have HI := hide fun V (hV : Below w.heap.size w V) => heldIntS_any _ _ (endE E 1) V (h2.below hV) (by rw [marks_len]) (by rw [marks_len]; exact hfl) (by omega) (by omega)
  have HA := hide A1
  have HO := hide O1
  clear A1 O1 h1 h2 hl
  generalize endE E 1 = q at *
  generalize (bills (mkE E 1)).length = n1 at *
  rw [marks_len] at HI HO HH HA ⊢
  generalize F.length = n2 at *
  unfold vBook
  go_enter Try.func21, Try.ntmps21
  go_wp2_with fail
  refine (unhide HH).mono ?_
  rintro e w2 ⟨rfl, hb⟩
  have c1 := ((unhide HO).step hb).cell (i := 1) rfl
  replace HA := hide (Below.step (unhide HA) hb)
  clear hb HH
  have d0 : decide (q < 0) = false := by rw [decide_eq_false_iff_not]; omega
  go_wp2_with fail
  refine (unhide HI _ (unhide HA)).mono ?_
  rintro e w3 ⟨rfl, h9⟩
  subst h9
  clear HI
  have d1 : decide (q + (n2 : Int) < 0) = false := by rw [decide_eq_false_iff_not]; omega
  go_wp2
  go_ret
  exact ⟨rfl, unhide HA⟩

end Go.Proofs.Ytdcbonfhakdhhaa
