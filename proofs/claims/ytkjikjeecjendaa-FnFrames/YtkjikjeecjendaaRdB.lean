/- Lists of radios of the call's own; contracts of the laws' own toRadio, toRadioS. No statement about the program stands here. -/
import Derived.Test.YtkjikjeecjendaaRdA
namespace Go.Proofs.Ytkjikjeecjendaa
open Go.RowKit

set_option maxRecDepth 10000 in
set_option maxHeartbeats 1600000 in
theorem toRadio_any (id sl : Int) (na : Option Addr) (nn nc : Nat) (H : List Int) (w : World) (hN : IntsIn w (.slice na nn nc) H) (hsN : H.length ≤ 1048576) :
    Calls Try.prog 74 #[vRadio id sl (.slice na nn nc)] w fun e w' => ∃ g, e = .returned (vRadio id sl (.slice (some ⟨g, 0, none⟩) H.length H.length)) ∧ w.heap.size ≤ g ∧ OwnV w' g (ints H) ∧ Below w.heap.size w w' := by
  have HN := hide hN
  have HH := hide (b3_new w #[.int .i64 id, .int .i64 sl, .slice na nn nc] #[.int .i64 0, .int .i64 0, .slice none 0 0] #[.int .i64 id, .int .i64 sl, .slice none 0 0] 90 45 45)
  clear hN
  unfold vRadio
  go_enter Try.func74, Try.ntmps74
  go_wp2_with fail
  refine (toIntS_o _ H _ ((unhide HN).below (unhide HH).below) hsN).mono ?_
  rintro e w2 ⟨g2, rfl, hg2, hO2, hb⟩
  have hg := (unhide HH).o3.lt
  replace HH := hide ((unhide HH).step hb)
  have HO2 := hide hO2
  have hg3 : w.heap.size + 1 + 1 < g2 := by omega
  clear hb hO2 hg2 hg HN
  have c0 := (unhide HH).o3.cell (i := 0) rfl
  have c1 := (unhide HH).o3.cell (i := 1) rfl
  have c2 := (unhide HH).o3.cell (i := 2) rfl
  have cf := (unhide HH).o3.frozen
  have HH1 := hide ((unhide HH).put3 2 (.slice (some ⟨g2, 0, none⟩) H.length H.length) (by simp))
  have e0 := (unhide HH1).o3.cell (i := 0) rfl
  have e1 := (unhide HH1).o3.cell (i := 1) rfl
  have e2 := (unhide HH1).o3.cell (i := 2) rfl
  have d0 := (unhide HH1).o2.cell (i := 0) rfl
  have d1 := (unhide HH1).o2.cell (i := 1) rfl
  have d2 := (unhide HH1).o2.cell (i := 2) rfl
  have df := (unhide HH1).o2.frozen
  have HH2 := hide ((((unhide HH1).put2 0 (.int .i64 id) (by simp)).put2 1 (.int .i64 sl) (by simp)).put2 2 (.slice (some ⟨g2, 0, none⟩) H.length H.length) (by simp))
  have hq2 : g2 ≠ w.heap.size + 1 + 1 := by omega
  have hq4 : g2 ≠ w.heap.size + 1 := by omega
  have HO2' := hide (farN (farN (farN (farN (unhide HO2) hq2 2 (.slice (some ⟨g2, 0, none⟩) H.length H.length)) hq4 0 (.int .i64 id)) hq4 1 (.int .i64 sl)) hq4 2 (.slice (some ⟨g2, 0, none⟩) H.length H.length))
  have hn1 : ¬ w.heap.size + 1 = w.heap.size + 1 + 1 := by omega
  have hn2 : ¬ w.heap.size + 1 + 1 = w.heap.size + 1 := by omega
  go_wp2
  have k0 := (unhide HH2).o2.cell (i := 0) rfl
  have k1 := (unhide HH2).o2.cell (i := 1) rfl
  have k2 := (unhide HH2).o2.cell (i := 2) rfl
  refine bodyPost_ret (v := vRadio id sl (.slice (some ⟨g2, 0, none⟩) H.length H.length)) (by simp [results, Try.results74, go_sem, vRadio, k0, k1, k2]) rfl ⟨g2, rfl, by omega, unhide HO2', (unhide HH2).below⟩

def eRd (q : Int × Int × Nat × Nat) : Nat → Value
  | 0 => .int .i64 q.1
  | 1 => .int .i64 q.2.1
  | _ => .slice (some ⟨q.2.2.2, 0, none⟩) q.2.2.1 q.2.2.1
/-- The radios L in numbers, the places of the r-th in block G r. -/
def rdL (L : List Rad) (G : Nat → Nat) : List (Int × Int × Nat × Nat) := (List.range L.length).map fun r => ((L.getD r default).1, (L.getD r default).2.1, (L.getD r default).2.2.length, G r)
theorem rdL_len (L : List Rad) (G : Nat → Nat) : (rdL L G).length = L.length := by simp [rdL]
theorem rdL_get {L : List Rad} {G : Nat → Nat} {r : Nat} (hr : r < L.length) : (rdL L G).getD r default = ((L.getD r default).1, (L.getD r default).2.1, (L.getD r default).2.2.length, G r) := by simp [rdL, List.getD, hr]
/-- The radios L stand in block g, the places of the r-th in block G r behind it. -/
def OwnRd (w : World) (g : Nat) (G : Nat → Nat) (L : List Rad) : Prop :=
  OwnV w g (recCells 3 eRd (rdL L G)) ∧ (∀ r, r < L.length → g < G r ∧ OwnV w (G r) (ints (L.getD r default).2.2)) ∧ ∀ r s, r < s → s < L.length → G r < G s
theorem OwnRd.step {w w' : World} {g : Nat} {G : Nat → Nat} {L : List Rad} (h : OwnRd w g G L) (hb : Below w.heap.size w w') : OwnRd w' g G L :=
  ⟨h.1.step hb, fun r hr => ⟨(h.2.1 r hr).1, (h.2.1 r hr).2.step hb⟩, h.2.2⟩
theorem OwnRd.kept {T : Nat → Prop} {w w' : World} {g : Nat} {G : Nat → Nat} {L : List Rad} (h : OwnRd w g G L) (hk : Kept T w w') (hT : ∀ b, g ≤ b → b < w.heap.size → ¬ T b) : OwnRd w' g G L :=
  ⟨h.1.kept hk (hT _ (Nat.le_refl _) h.1.lt), fun r hr => ⟨(h.2.1 r hr).1, (h.2.1 r hr).2.kept hk (hT _ (Nat.le_of_lt (h.2.1 r hr).1) (h.2.1 r hr).2.lt)⟩, h.2.2⟩
theorem OwnRd.inn {w : World} {g : Nat} {G : Nat → Nat} {L : List Rad} (h : OwnRd w g G L) (h1 : L.length ≤ 1048576) (h2 : ∀ r, r < L.length → (L.getD r default).2.2.length ≤ 1048576) : RadsIn w (.slice (some ⟨g, 0, none⟩) L.length L.length) L := by
  refine ⟨_, _, rfl, Nat.le_refl _, by unfold maxLen; omega, fun i hi => ?_⟩
  have hc : ∀ j, j < 3 → w.cell? ⟨g, i * 3 + j, none⟩ = some (eRd ((L.getD i default).1, (L.getD i default).2.1, (L.getD i default).2.2.length, G i) j) := fun j hj => by
    rw [← rdL_get hi]
    refine h.1.cell ?_
    have hq : i * 3 + j < (rdL L G).length * 3 := by rw [rdL_len]; omega
    have e1 : (i * 3 + j) / 3 = i := by omega
    have e2 : (i * 3 + j) % 3 = j := by omega
    simp [recCells, List.getElem?_range hq, e1, e2]
  have c0 := hc 0 (by omega)
  have c1 := hc 1 (by omega)
  have c2 := hc 2 (by omega)
  have z := h2 i hi
  exact ⟨g, 0, some ⟨G i, 0, none⟩, _, rfl, by simpa [eRd] using c0, by simpa [eRd] using c1, by simpa [eRd] using c2, OwnV.intsIn (h.2.1 i hi).2 (Nat.le_refl _) (by unfold maxLen; omega)⟩

theorem FillC.congr {α : Type} [Inhabited α] {n : Nat} {enc : α → Nat → Value} {w wr : World} {L L' : List α} {k : Nat} (h : FillC n enc w wr L (k * n)) (hl : L'.length = L.length) (he : ∀ r, r < k → L'.getD r default = L.getD r default) : FillC n enc w wr L' (k * n) := by
  obtain ⟨h0, c, t, h1, h2, h3⟩ := h
  refine ⟨h0, c, t, h1, by rw [hl]; exact h2, fun q hq => ?_⟩
  have : q / n < k := Nat.div_lt_of_lt_mul (by rw [Nat.mul_comm]; exact hq)
  rw [h3 q hq, he _ this]

/-- So far k radios are filled in. -/
structure FillR3 (w wr : World) (L : List Rad) (k : Nat) (G : Nat → Nat) : Prop where
  fill : FillC 3 eRd w wr (rdL L G) (k * 3)
  own : ∀ r, r < k → w.heap.size < G r ∧ OwnV wr (G r) (ints (L.getD r default).2.2)
  inc : ∀ r s, r < s → s < k → G r < G s
theorem FillR3.grow {w wr w1 : World} {L : List Rad} {k : Nat} {G : Nat → Nat} (h : FillR3 w wr L k G) (hb : Below wr.heap.size wr w1) : FillR3 w w1 L k G := ⟨h.fill.grow hb, fun r hr => ⟨(h.own r hr).1, (h.own r hr).2.step hb⟩, h.inc⟩
theorem FillR3.next {w wr : World} {L : List Rad} {k : Nat} {G : Nat → Nat} (h : FillR3 w wr L k G) (hk : k < L.length) {g : Nat} {id sl : Int} {H : List Int} (e : L.getD k default = (id, sl, H)) (hg : ∀ r, r < k → G r < g) (hg0 : w.heap.size < g) (ho : OwnV wr g (ints H)) :
    FillR3 w (((wr.setCell ⟨w.heap.size, k * 3, none⟩ (.int .i64 id)).setCell ⟨w.heap.size, k * 3 + 1, none⟩ (.int .i64 sl)).setCell ⟨w.heap.size, k * 3 + 2, none⟩ (.slice (some ⟨g, 0, none⟩) H.length H.length)) L (k + 1) (fun r => if r = k then g else G r) := by
  have f0 : FillC 3 eRd w wr (rdL L fun r => if r = k then g else G r) (k * 3) := h.fill.congr (by rw [rdL_len, rdL_len]) fun r hr => by
    rw [rdL_get (by omega), rdL_get (by omega), if_neg (by omega)]
  have hl : k * 3 + 2 < (rdL L fun r => if r = k then g else G r).length * 3 := by rw [rdL_len]; omega
  have s0 := f0.set (v := .int .i64 id) (by omega) (by rw [show (k * 3) / 3 = k by omega, show (k * 3) % 3 = 0 by omega, rdL_get hk, e]; rfl)
  have s1 := s0.set (v := .int .i64 sl) (by omega) (by rw [show (k * 3 + 1) / 3 = k by omega, show (k * 3 + 1) % 3 = 1 by omega, rdL_get hk, e]; rfl)
  have s2 := s1.set (v := .slice (some ⟨g, 0, none⟩) H.length H.length) (by omega) (by rw [show (k * 3 + 1 + 1) / 3 = k by omega, show (k * 3 + 1 + 1) % 3 = 2 by omega, rdL_get hk, e]; simp [eRd])
  have far : ∀ (x : Nat) (vs : List Value), w.heap.size < x → OwnV wr x vs → OwnV (((wr.setCell ⟨w.heap.size, k * 3, none⟩ (.int .i64 id)).setCell ⟨w.heap.size, k * 3 + 1, none⟩ (.int .i64 sl)).setCell ⟨w.heap.size, k * 3 + 2, none⟩ (.slice (some ⟨g, 0, none⟩) H.length H.length)) x vs := fun x vs hx ho =>
    farN (farN (farN ho (by omega) _ _) (by omega) _ _) (by omega) _ _
  refine ⟨by rw [show (k + 1) * 3 = k * 3 + 1 + 1 + 1 by omega]; exact s2, fun r hr => ?_, fun r s hrs hs => ?_⟩
  · by_cases hrk : r = k
    · subst hrk
      simp only [if_true]
      rw [e]
      exact ⟨hg0, far _ _ hg0 ho⟩
    · simp only [if_neg hrk]
      obtain ⟨q1, q2⟩ := h.own r (by omega)
      exact ⟨q1, far _ _ q1 q2⟩
  · by_cases hsk : s = k
    · subst hsk
      simp only [if_true]
      rw [if_neg (by omega)]
      exact hg r hrs
    · rw [if_neg (by omega), if_neg hsk]
      exact h.inc r s hrs (by omega)

theorem Try.infoRadio : (Try.prog.info? 45).map (fun i => (i.zero, i.size, i.bytes)) = some (some (vRadio 0 0 (.slice none 0 0)), 3, 40) := by kernel_rfl

set_option maxHeartbeats 1600000 in
theorem toRadioS_any (v : Value) (L : List Rad) (w : World) (h : RadsIn w v L) (hs : L.length ≤ 1048576) (hl : ∀ i, i < L.length → (L.getD i default).2.2.length ≤ 1048576) :
    Calls Try.prog 38 #[v] w fun e w' => ∃ g G, e = .returned (.slice (some ⟨g, 0, none⟩) L.length L.length) ∧ w.heap.size ≤ g ∧ OwnRd w' g G L ∧ Below w.heap.size w w' := by
  obtain ⟨ao, cap, rfl, hlc, hm, hc⟩ := h
  clear hlc hm
  have HC := hide hc
  have HL := hide hl
  clear hc hl
  have hmk := run_make_recs (P := Try.prog) 33 45 _ 3 40 Try.underlying33 Try.infoRadio .i64 .i64 L.length (by omega) (by omega)
  go_enter Try.func38, Try.ntmps38
  go_wp2
  clear hmk
  go_loopg [4] L.length (fun g i wr => ∃ k : Nat, ∃ G, k ≤ L.length ∧ g = L.length - k ∧ i = .int .i64 k ∧ FillR3 w wr L k G)
  case atStart =>
    refine ⟨0, fun _ => 0, Nat.zero_le _, rfl, rfl, ⟨?_, fun r hr => by omega, fun r s _ hs => by omega⟩⟩
    rw [Nat.zero_mul]
    have st : ∀ z t, FillC 3 eRd w (w.alloc (.cells (madeCells z (L.length * 3)) t)) (rdL L fun _ => 0) 0 := fun z t => by
      have := FillC.start (n := 3) (enc := eRd) w (rdL L fun _ => 0) z t
      rw [rdL_len] at this
      exact this
    exact st _ _
  case round =>
    obtain ⟨k, G, hk, rfl, rfl, hF⟩ := hrel
    by_cases hkn : k < L.length
    · have hkl := unhide HL k hkn
      obtain ⟨b, o, na, nc, id, sl, H, m, rfl, hc0, hc1, hc2, hr, EX, EM, hm0⟩ := radAt (unhide HC) hkn
      rw [unhide EX] at hkl
      have HT := hide fun V (hV : Below w.heap.size w V) => toRadio_any id sl na _ nc H V (hr.below hV) hkl
      have g0 := wcell3 hc0 hF.fill.below
      have g1 := wcell3 hc1 hF.fill.below
      have g2 := wcell3 hc2 hF.fill.below
      have HF := hide hF
      unfold vRadio at HT
      clear hc0 hc1 hc2 hr hF hkl
      go_wp2_with fail
      refine (unhide HT _ (unhide HF).fill.below).mono ?_
      rintro e w1 ⟨gn, rfl, hgn, hon, hb⟩
      have hlt := (unhide HF).fill.lt
      have HG : Hid (∀ r, r < k → G r < gn) := fun r hr => Nat.lt_of_lt_of_le ((unhide HF).own r hr).2.lt hgn
      have hF1 := (unhide HF).grow hb
      have hf := hF1.fill.frozen
      obtain ⟨u0', hu0⟩ := hF1.fill.cell (q := k * 3) (by rw [rdL_len]; omega)
      obtain ⟨u1', hu1⟩ := hF1.fill.cell (q := k * 3 + 1) (by rw [rdL_len]; omega)
      obtain ⟨u2', hu2⟩ := hF1.fill.cell (q := k * 3 + 2) (by rw [rdL_len]; omega)
      have HF1 := hide hF1
      have HO := hide hon
      have hgn' : w.heap.size < gn := by omega
      clear hb HF hF1 HT hon hgn hlt
      go_wp2
      go_roundg (L.length - (k + 1))
      case measure => omega
      case rel => exact ⟨k + 1, _, by omega, rfl, by go_num, (unhide HF1).next hkn (unhide EX) (unhide HG) hgn' (unhide HO)⟩
    · have hkk : k = L.length := by omega
      subst hkk
      go_wp2
      go_ret
      have hd := hF.fill
      rw [← rdL_len L G] at hd
      exact ⟨_, G, rfl, Nat.le_refl _, ⟨hd.done, hF.own, hF.inc⟩, hF.fill.below⟩

end Go.Proofs.Ytkjikjeecjendaa
