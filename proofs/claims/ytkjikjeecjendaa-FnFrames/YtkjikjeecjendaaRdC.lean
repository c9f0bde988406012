/- Lists of radios: contracts of the laws' own eqRadio, eqRadioS, markRadioS. No statement about the program stands here. -/
import Derived.Test.YtkjikjeecjendaaRdB
namespace Go.Proofs.Ytkjikjeecjendaa
open Go.RowKit

set_option maxHeartbeats 1600000 in
theorem eqRadio_any (id sl : Int) (na : Option Addr) (nn nc : Nat) (na' : Option Addr) (nn' nc' : Nat) (H : List Int) (w : World) (hN : IntsIn w (.slice na nn nc) H) (hN' : IntsIn w (.slice na' nn' nc') H) :
    Calls Try.prog 75 #[vRadio id sl (.slice na nn nc), vRadio id sl (.slice na' nn' nc')] w fun e w' => e = .returned (.bool true) ∧ Below w.heap.size w w' := by
  have A := Below.step (Below.alloc1 w (.cells #[.int .i64 id, .int .i64 sl, .slice na nn nc] 45)) (Below.alloc1 _ (.cells #[.int .i64 id, .int .i64 sl, .slice na' nn' nc'] 45))
  have HE := hide (eqIntS_o _ _ H _ (hN.below A) (hN'.below A))
  have HW := hide A
  clear A hN hN'
  unfold vRadio
  go_enter Try.func75, Try.ntmps75
  go_wp2_with fail
  refine (unhide HE).mono ?_
  rintro e w2 ⟨rfl, hb⟩
  replace HW := hide (Below.step (unhide HW) hb)
  clear hb HE
  go_wp2
  go_ret
  exact ⟨rfl, unhide HW⟩

set_option maxHeartbeats 1600000 in
theorem eqRadioS_any (v v' : Value) (L : List Rad) (w : World) (h : RadsIn w v L) (h' : RadsIn w v' L) :
    Calls Try.prog 39 #[v, v'] w fun e w' => e = .returned (.bool true) ∧ Below w.heap.size w w' := by
  obtain ⟨ao, cap, rfl, hl, hm, hc⟩ := h
  obtain ⟨ao', cap', rfl, _, _, hc'⟩ := h'
  unfold maxLen at hm
  have HC := hide hc
  have HC' := hide hc'
  clear hc hc'
  go_enter Try.func39, Try.ntmps39
  go_wp2
  go_loopg [5] L.length (fun g i wr => Below w.heap.size w wr ∧ ∃ k : Nat, k ≤ L.length ∧ g = L.length - k ∧ i = .int .i64 k)
  case atStart => exact ⟨Below.refl _ _, 0, Nat.zero_le _, rfl, rfl⟩
  case round =>
    obtain ⟨hW, k, hk, rfl, rfl⟩ := hrel
    by_cases hkn : k < L.length
    · obtain ⟨b, o, na, nc, rfl, hc0, hc1, hc2, hr⟩ := unhide HC k hkn
      obtain ⟨b', o', na', nc', rfl, hd0, hd1, hd2, hr'⟩ := unhide HC' k hkn
      have S1 := hide fun x' : Gr wr => eqRadio_any (L.getD k default).1 (L.getD k default).2.1 na _ nc na' _ nc' (L.getD k default).2.2 x'.val ((hr.below hW).below x'.ok) ((hr'.below hW).below x'.ok)
      generalize L.getD k default = z at hc0 hc1 hc2 hd0 hd1 hd2 S1
      obtain ⟨id, sl, H⟩ := z
      dsimp only at hc0 hc1 hc2 hd0 hd1 hd2 S1
      have r0 := fun x' : Gr wr => gr_cell (wcell3 hc0 hW) x'
      have r0' := fun x' : Gr wr => gr_cell (wcell3 hd0 hW) x'
      have r1 := fun x' : Gr wr => gr_cell (wcell3 hc1 hW) x'
      have r1' := fun x' : Gr wr => gr_cell (wcell3 hd1 hW) x'
      have r2 := fun x' : Gr wr => gr_cell (wcell3 hc2 hW) x'
      have r2' := fun x' : Gr wr => gr_cell (wcell3 hd2 hW) x'
      unfold vRadio at S1
      have HW := hide hW
      have gsome := gr_some wr
      clear hc0 hc1 hc2 hd0 hd1 hd2 hW hr hr'
      go_wp2
      refine wp_region_grown (by kernel_rfl) (by kernel_rfl) ?_
      repeat (go_big_quiet_step (fail))
      go_big_quiet_want
      go_big_quiet_op
      go_big_quiet_call (exact calls_grown (unhide S1 _))
      repeat (go_big_quiet_step (fail))
      refine wpQuiet_nil ?_
      intro w1 hw1
      obtain ⟨z', hz⟩ := hw1
      have hb1 : Below wr.heap.size wr w1 := hz ▸ z'.ok
      clear hz gsome
      go_wp2
      go_roundg (L.length - (k + 1))
      case measure => omega
      case rel => exact ⟨Below.step (unhide HW) hb1, k + 1, by omega, rfl, by go_num⟩
    · go_wp2
      go_ret
      exact ⟨rfl, hW⟩

/-- The blocks of a list of radios of the call's own. -/
def RdBl (g : Nat) (G : Nat → Nat) (n : Nat) (b : Nat) : Prop := b = g ∨ ∃ r, r < n ∧ b = G r
/-- What is marked, from k0 on. -/
def mkR : List Rad → Int → List Rad
  | [], _ => []
  | (_, _, H) :: L, k => (k, k + 1, marks (k + 2) H.length) :: mkR L (k + 2 + H.length)
def endR : List Rad → Int → Int
  | [], k => k
  | (_, _, H) :: L, k => endR L (k + 2 + H.length)
theorem mkR_len (L : List Rad) : ∀ k, (mkR L k).length = L.length := by
  induction L with
  | nil => intro k; rfl
  | cons a L ih => intro k; simp [mkR, ih]
theorem mkR_get (L : List Rad) : ∀ (k : Int) (i : Nat), i < L.length → (mkR L k).getD i default = (endR (L.take i) k, endR (L.take i) k + 1, marks (endR (L.take i) k + 2) (L.getD i default).2.2.length) := by
  induction L with
  | nil => intro k i hi; simp at hi
  | cons a L ih =>
    intro k i hi
    cases i with
    | zero => simp [mkR, endR, List.getD]
    | succ i =>
      have := ih (k + 2 + a.2.2.length) i (by simpa using hi)
      simp only [List.getD] at this ⊢
      simp [mkR, endR, this]
theorem endR_snoc (L : List Rad) : ∀ (k : Int) (i : Nat), i < L.length → endR (L.take (i + 1)) k = endR (L.take i) k + 2 + ((L.getD i default).2.2.length : Int) := by
  induction L with
  | nil => intro k i hi; simp at hi
  | cons a L ih =>
    intro k i hi
    cases i with
    | zero => simp [endR, List.getD]
    | succ i =>
      have := ih (k + 2 + a.2.2.length) i (by simpa using hi)
      simp only [List.getD] at this ⊢
      simp [endR, this]
theorem endR_bd (L : List Rad) (hl : ∀ i, i < L.length → (L.getD i default).2.2.length ≤ 1048576) (k : Int) : ∀ i, i ≤ L.length → k ≤ endR (L.take i) k ∧ endR (L.take i) k ≤ k + (i : Int) * 1048578 := by
  intro i
  induction i with
  | zero => intro _; simp [endR]
  | succ i ih =>
    intro hi
    obtain ⟨h1, h2⟩ := ih (by omega)
    rw [endR_snoc L k i (by omega)]
    have := hl i (by omega)
    refine ⟨by omega, ?_⟩
    have e : ((i + 1 : Nat) : Int) * 1048578 = (i : Int) * 1048578 + 1048578 := by omega
    omega

/-- Up to the k-th the radios are marked, from it on they stand as they were. -/
structure MarkR (w wr : World) (g : Nat) (G : Nat → Nat) (L : List Rad) (k0 : Int) (k : Nat) : Prop where
  kept : Kept (RdBl g G L.length) w wr
  row : ∃ vs, OwnV wr g vs ∧ vs.length = L.length * 3 ∧ (∀ r, r < L.length → vs[r * 3 + 2]? = some (.slice (some ⟨G r, 0, none⟩) (L.getD r default).2.2.length (L.getD r default).2.2.length)) ∧ (∀ r, r < k → vs[r * 3]? = some (.int .i64 (endR (L.take r) k0)) ∧ vs[r * 3 + 1]? = some (.int .i64 (endR (L.take r) k0 + 1)))
  own : ∀ r, k ≤ r → r < L.length → OwnV wr (G r) (ints (L.getD r default).2.2)
  done : ∀ r, r < k → r < L.length → OwnV wr (G r) (ints (marks (endR (L.take r) k0 + 2) (L.getD r default).2.2.length))
  beh : ∀ r, r < L.length → g < G r
  inc : ∀ r s, r < s → s < L.length → G r < G s
theorem MarkR.start {w : World} {g : Nat} {G : Nat → Nat} {L : List Rad} (h : OwnRd w g G L) (k0 : Int) : MarkR w w g G L k0 0 := by
  refine ⟨Kept.refl _ _, ⟨_, h.1, by rw [recCells_length, rdL_len], fun r hr => ?_, fun r hr => by omega⟩, fun r _ hr => (h.2.1 r hr).2, fun r hr => by omega, fun r hr => (h.2.1 r hr).1, h.2.2⟩
  have hq : r * 3 + 2 < (rdL L G).length * 3 := by rw [rdL_len]; omega
  have e1 : (r * 3 + 2) / 3 = r := by omega
  have e2 : (r * 3 + 2) % 3 = 2 := by omega
  have e3 := rdL_get (L := L) (G := G) hr
  simp only [recCells, List.getElem?_map, List.getElem?_range hq, Option.map_some, e1, e2, e3, eRd]
/-- One radio more: its two numbers and then its places. -/
theorem MarkR.next {w wr w1 : World} {g : Nat} {G : Nat → Nat} {L : List Rad} {k0 : Int} {k : Nat} (h : MarkR w wr g G L k0 k) (hk : k < L.length) {q : Int} (hqe : q = endR (L.take k) k0)
    (hq : Kept (fun b => b = G k) ((wr.setCell ⟨g, k * 3, none⟩ (.int .i64 q)).setCell ⟨g, k * 3 + 1, none⟩ (.int .i64 (q + 1))) w1) (ho1 : OwnV w1 (G k) (ints (marks (q + 2) (L.getD k default).2.2.length))) : MarkR w w1 g G L k0 (k + 1) := by
  obtain ⟨vs, ho, hl, hc, hd⟩ := h.row
  have hgk := h.beh k hk
  have ho2 := (ho.set (k * 3) (.int .i64 q) (by omega)).set (k * 3 + 1) (.int .i64 (q + 1)) (by rw [List.length_set]; omega)
  have far : ∀ r, r < L.length → r ≠ k → ∀ vs', OwnV wr (G r) vs' → OwnV w1 (G r) vs' := fun r hr hrk vs' hv => by
    have hgr := h.beh r hr
    have hne : G r ≠ G k := by
      rcases Nat.lt_or_gt_of_ne hrk with hx | hx
      · have := h.inc r k hx hk; omega
      · have := h.inc k r hx hr; omega
    exact (farN (farN hv (by omega) _ _) (by omega) _ _).kept hq hne
  refine ⟨((h.kept.setCell (p := ⟨g, k * 3, none⟩) (Or.inl rfl) _).setCell (p := ⟨g, k * 3 + 1, none⟩) (Or.inl rfl) _).trans (hq.mono fun b _ e => Or.inr ⟨k, hk, e⟩), ⟨_, ho2.kept hq (by omega), by simpa using hl, fun r hr => ?_, fun r hr => ?_⟩, fun r h1 h2 => ?_, fun r h1 h2 => ?_, h.beh, h.inc⟩
  · rw [List.getElem?_set_ne (by omega), List.getElem?_set_ne (by omega)]
    exact hc r hr
  · by_cases e : r = k
    · subst e
      constructor
      · rw [List.getElem?_set_ne (by omega), List.getElem?_set_self (by omega), hqe]
      · rw [List.getElem?_set_self (by rw [List.length_set]; omega), hqe]
    · obtain ⟨d0, d1⟩ := hd r (by omega)
      exact ⟨by rw [List.getElem?_set_ne (by omega), List.getElem?_set_ne (by omega)]; exact d0, by rw [List.getElem?_set_ne (by omega), List.getElem?_set_ne (by omega)]; exact d1⟩
  · exact far r h2 (by omega) _ (h.own r (by omega) h2)
  · by_cases e : r = k
    · subst e; rw [← hqe]; exact ho1
    · exact far r h2 e _ (h.done r (by omega) h2)

set_option maxHeartbeats 1600000 in
theorem markRadioS_any (g cap : Nat) (G : Nat → Nat) (L : List Rad) (k0 : Int) (w : World) (h : OwnRd w g G L) (hs : L.length ≤ 1048576) (hl : ∀ i, i < L.length → (L.getD i default).2.2.length ≤ 1048576) (hk0 : 0 ≤ k0) (hk1 : k0 ≤ 1073741824) :
    Calls Try.prog 42 #[.slice (some ⟨g, 0, none⟩) L.length cap, .int .i64 k0] w fun e w' => e = .returned (.int .i64 (endR L k0)) ∧ MarkR w w' g G L k0 L.length := by
  have HL := hide hl
  have HE := hide (endR_bd L hl k0)
  have HM := hide (MarkR.start h k0)
  clear hl h
  go_enter Try.func42, Try.ntmps42
  go_wp2
  go_loopg [1, 5] L.length (fun gg kv iv wr => ∃ k : Nat, k ≤ L.length ∧ gg = L.length - k ∧ iv = .int .i64 k ∧ kv = .int .i64 (endR (L.take k) k0) ∧ Hid (MarkR w wr g G L k0 k))
  case atStart => exact ⟨0, Nat.zero_le _, rfl, rfl, by simp [endR], HM⟩
  case round =>
    obtain ⟨k, hk, rfl, rfl, rfl, HU⟩ := hrel
    have hbd := unhide HE k hk
    by_cases hkn : k < L.length
    · obtain ⟨vs, ho, hvl, hvc, hvd⟩ := (unhide HU).row
      have hc1 := ho.cell (hvc k hkn)
      obtain ⟨u0, hu0⟩ : ∃ u, wr.cell? ⟨g, k * 3, none⟩ = some u := ⟨vs[k * 3]'(by omega), ho.cell (List.getElem?_eq_getElem (by omega))⟩
      obtain ⟨u1, hu1⟩ : ∃ u, wr.cell? ⟨g, k * 3 + 1, none⟩ = some u := ⟨vs[k * 3 + 1]'(by omega), ho.cell (List.getElem?_eq_getElem (by omega))⟩
      have hf0 := ho.frozen (k * 3)
      have hf1 := ho.frozen (k * 3 + 1)
      have hUl := unhide HL k hkn
      have hgk := (unhide HU).beh k hkn
      have hok := (unhide HU).own k (Nat.le_refl _) hkn
      have hSN := endR_snoc L k0 k hkn
      obtain ⟨q, hq⟩ : ∃ q, q = endR (L.take k) k0 := ⟨_, rfl⟩
      have HNX := hide fun w1 => (unhide HU).next (w1 := w1) hkn hq
      have HQ := hide hq
      rw [← hq] at hbd hSN ⊢
      have hq0 : 0 ≤ q := by omega
      have hq1 : q ≤ 1073741824 + 1048576 * 1048578 := by
        have : (k : Int) * 1048578 ≤ 1048576 * 1048578 := Int.mul_le_mul_of_nonneg_right (by omega) (by omega)
        omega
      have HMN := hide (markIntS_any (some ⟨G k, 0, none⟩) (L.getD k default).2.2.length (L.getD k default).2.2 (q + 2) (G k) ((wr.setCell ⟨g, k * 3, none⟩ (.int .i64 q)).setCell ⟨g, k * 3 + 1, none⟩ (.int .i64 (q + 1))) (fun _ => ⟨rfl, farN (farN hok (by omega) _ _) (by omega) _ _⟩) hUl (by omega) (by omega))
      rw [show q + 2 = q + 1 + 1 by omega] at HMN
      have HOK := hide (farN (farN hok (show G k ≠ g by omega) (k * 3) (.int .i64 q)) (show G k ≠ g by omega) (k * 3 + 1) (.int .i64 (q + 1)))
      have HSN := hide hSN
      generalize (L.getD k default).2.2 = H at *
      clear ho hvl hvc hvd hok hSN hq HU hbd
      have hn1 : ¬ k * 3 = k * 3 + 1 := by omega
      go_wp2_with fail
      refine (unhide HMN).mono ?_
      rintro e w1 ⟨rfl, hkp, hon⟩
      have HU2 := hide (unhide HNX w1 (hkp.mono fun b _ e => e.1) (by
        by_cases hne : H = []
        · subst hne
          exact (unhide HOK).kept hkp (fun e => e.2 rfl)
        · rw [show q + 2 = q + 1 + 1 by omega]; exact hon hne))
      clear hkp hon HMN HNX HOK
      go_wp2
      go_roundg (L.length - (k + 1))
      case measure => omega
      case rel => exact ⟨k + 1, by omega, rfl, by go_num, by rw [unhide HSN]; congr 1; omega, HU2⟩
    · have hkk : k = L.length := by omega
      subst hkk
      rw [List.take_length]
      go_wp2
      go_ret
      exact ⟨rfl, unhide HU⟩

end Go.Proofs.Ytkjikjeecjendaa
