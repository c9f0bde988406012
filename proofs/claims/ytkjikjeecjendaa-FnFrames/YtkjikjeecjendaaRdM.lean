/- Radios: contracts of the program's ownCopy and ownRadios over radios, settleFirst, Settle. -/
import Derived.Test.YtkjikjeecjendaaRdL
namespace Go.Proofs.Ytkjikjeecjendaa
open Go.RowKit

theorem pick_lt {α : Type} [Inhabited α] {n : Nat} {p : Nat → α → Prop} (h : ∀ i, i < n → ∃ q, p i q) : ∃ f : Nat → α, ∀ i, i < n → p i (f i) :=
  ⟨fun i => if hi : i < n then Classical.choose (h i hi) else default, fun i hi => by simp only [dif_pos hi]; exact Classical.choose_spec (h i hi)⟩

/-- The cells of a list of radios that came in. -/
theorem rads_src {w : World} {ao : Option Addr} {m cap : Nat} {L : List Rad} (h : RadsIn w (.slice ao m cap) L) : ∃ cs : List Value, cs.length = L.length * 3 ∧ (∀ v ∈ cs, v.oneCell' = true) ∧ (0 < m → ∃ ad, ao = some ad ∧ ∀ j v, cs[j]? = some v → w.cell? (ad.add j) = some v) ∧
    ∀ r, r < L.length → cs[r * 3]? = some (.int .i64 (L.getD r default).1) ∧ cs[r * 3 + 1]? = some (.int .i64 (L.getD r default).2.1) ∧ ∃ na nc, cs[r * 3 + 2]? = some (.slice na (L.getD r default).2.2.length nc) ∧ IntsIn w (.slice na (L.getD r default).2.2.length nc) (L.getD r default).2.2 := by
  obtain ⟨ao', cap', e, h1, h2, h3⟩ := h
  simp only [Value.slice.injEq] at e
  obtain ⟨rfl, rfl, rfl⟩ := e
  have h4 : ∀ i, i < L.length → ∃ q : Option Addr × Nat, ∃ b o, ao = some ⟨b, o, none⟩ ∧ w.cell? ⟨b, o + i * 3, none⟩ = some (.int .i64 (L.getD i default).1) ∧ w.cell? ⟨b, o + i * 3 + 1, none⟩ = some (.int .i64 (L.getD i default).2.1) ∧ w.cell? ⟨b, o + i * 3 + 2, none⟩ = some (.slice q.1 (L.getD i default).2.2.length q.2) ∧ IntsIn w (.slice q.1 (L.getD i default).2.2.length q.2) (L.getD i default).2.2 := fun i hi => by
    obtain ⟨b, o, na, nc, e1, c0, c1, c2, hr⟩ := h3 i hi
    exact ⟨(na, nc), b, o, e1, c0, c1, c2, hr⟩
  obtain ⟨Q, hQ⟩ := pick_lt h4
  refine ⟨(List.range (L.length * 3)).map fun q => if q % 3 = 0 then .int .i64 (L.getD (q / 3) default).1 else if q % 3 = 1 then .int .i64 (L.getD (q / 3) default).2.1 else .slice (Q (q / 3)).1 (L.getD (q / 3) default).2.2.length (Q (q / 3)).2, by simp, fun v hv => ?_, fun hpos => ?_, fun r hr => ?_⟩
  · obtain ⟨q, _, rfl⟩ := List.mem_map.1 hv
    split
    · rfl
    · split <;> rfl
  · obtain ⟨b, o, e1, -⟩ := hQ 0 hpos
    refine ⟨⟨b, o, none⟩, e1, fun j v hj => ?_⟩
    by_cases hlt : j < L.length * 3
    · obtain ⟨b', o', e2, c0, c1, c2, -⟩ := hQ (j / 3) (by omega)
      rw [e1] at e2
      simp only [Option.some.injEq, Addr.mk.injEq, and_true] at e2
      obtain ⟨rfl, rfl⟩ := e2
      simp only [List.getElem?_map, List.getElem?_range hlt, Option.map_some, Option.some.injEq] at hj
      rw [← hj, show (⟨b, o, none⟩ : Addr).add j = ⟨b, o + j, none⟩ from by simp [Addr.add]]
      have hm : j % 3 = 0 ∨ j % 3 = 1 ∨ j % 3 = 2 := by omega
      rcases hm with e | e | e
      · rw [if_pos e, show o + j = o + j / 3 * 3 by omega]; exact c0
      · rw [if_neg (by omega), if_pos e, show o + j = o + j / 3 * 3 + 1 by omega]; exact c1
      · rw [if_neg (by omega), if_neg (by omega), show o + j = o + j / 3 * 3 + 2 by omega]; exact c2
    · rw [List.getElem?_eq_none (by simp; omega)] at hj
      cases hj
  · obtain ⟨b, o, -, -, -, -, hr'⟩ := hQ r hr
    have g : ∀ j, j < 3 → ((List.range (L.length * 3)).map fun q => if q % 3 = 0 then Value.int .i64 (L.getD (q / 3) default).1 else if q % 3 = 1 then .int .i64 (L.getD (q / 3) default).2.1 else .slice (Q (q / 3)).1 (L.getD (q / 3) default).2.2.length (Q (q / 3)).2)[r * 3 + j]? = some (if j = 0 then .int .i64 (L.getD r default).1 else if j = 1 then .int .i64 (L.getD r default).2.1 else .slice (Q r).1 (L.getD r default).2.2.length (Q r).2) := fun j hj => by
      have hlt : r * 3 + j < L.length * 3 := by omega
      rw [List.getElem?_map, List.getElem?_range hlt, Option.map_some, show (r * 3 + j) / 3 = r by omega, show (r * 3 + j) % 3 = j by omega]
    exact ⟨by simpa using g 0 (by omega), by simpa using g 1 (by omega), (Q r).1, (Q r).2, by simpa using g 2 (by omega), hr'⟩

set_option maxRecDepth 10000 in
set_option maxHeartbeats 1600000 in
theorem ownCopyRadio_any (ar : Option Addr) (m cr : Nat) (L : List Rad) (w : World) (h : RadsIn w (.slice ar m cr) L) (hm : m ≤ 1048576) :
    Calls Try.prog 84 #[.slice ar m cr] w fun e w' => e = .returned (.slice (some ⟨w.heap.size, 0, none⟩) m m) ∧ (∃ cs : List Value, OwnV w' w.heap.size cs ∧ cs.length = L.length * 3 ∧
      ∀ r, r < L.length → cs[r * 3]? = some (.int .i64 (L.getD r default).1) ∧ cs[r * 3 + 1]? = some (.int .i64 (L.getD r default).2.1) ∧ ∃ na nc, cs[r * 3 + 2]? = some (.slice na (L.getD r default).2.2.length nc) ∧ IntsIn w (.slice na (L.getD r default).2.2.length nc) (L.getD r default).2.2) ∧ Below w.heap.size w w' := by
  have hlen : L.length = m := by
    obtain ⟨ao', cap', e, _⟩ := h
    simp only [Value.slice.injEq] at e
    exact e.2.1.symm
  obtain ⟨cs, hcl, hc1, hcs, hcd⟩ := rads_src h
  have hmk := run_make_recs (P := Try.prog) 33 45 _ 3 40 Try.underlying33 Try.infoRadio .i64 .i64 m (by omega) (by omega)
  obtain ⟨Z, eZ⟩ : ∃ Z, Z = (vRadio 0 0 (.slice none 0 0)).cells := ⟨_, rfl⟩
  rw [← eZ] at hmk
  have hsz : (Try.prog.info? 45).map (·.size) = some 3 := by
    obtain ⟨i0, hi, hzz⟩ := Option.map_eq_some_iff.1 Try.infoRadio
    simp only [Prod.mk.injEq] at hzz
    rw [hi, Option.map_some, hzz.2.1]
  have A := Below.alloc1 w (.cells (madeCells Z (m * 3)) 45)
  have O := ownV_alloc w (madeCells Z (m * 3)) 45
  have hzl : (madeCells Z (m * 3)).toList.length = m * 3 := by simp [madeCells]
  have hsrc2 : 0 < m → ∃ ad, ar = some ad ∧ ∀ j v, cs[j]? = some v → (w.alloc (.cells (madeCells Z (m * 3)) 45)).cell? (ad.add j) = some v := fun hp => by
    obtain ⟨ad, e, hx⟩ := hcs hp
    exact ⟨ad, e, fun j v hj => ((A.cell (lt_of_cell (hx j v hj))).trans (hx j v hj))⟩
  obtain ⟨w1, hrun, hO1, hb1⟩ := run_copy_all 33 33 45 3 Try.underlying33 hsz w.heap.size m m ar cr _ cs O (by rw [hzl, hcl, hlen]) (by rw [hcl, hlen]) hsrc2 hc1 w.heap.size w A (Nat.le_refl _)
  have HO1 := hide hO1
  have HW1 := hide hb1
  have HCD := hide hcd
  have HCL := hide hcl
  clear h eZ A O hzl hsz hsrc2 hO1 hb1 hlen hcd hcl hc1 hcs
  go_enter Try.func84, Try.ntmps84
  go_wp2
  go_ret
  exact ⟨rfl, ⟨cs, unhide HO1, unhide HCL, unhide HCD⟩, unhide HW1⟩

/-- Up to the k-th the places are copied too. -/
structure CopyR (w wr : World) (g : Nat) (G : Nat → Nat) (L : List Rad) (k : Nat) : Prop where
  below : Below w.heap.size w wr
  base : w.heap.size ≤ g
  row : ∃ vs, OwnV wr g vs ∧ vs.length = L.length * 3 ∧ (∀ r, r < L.length → vs[r * 3]? = some (.int .i64 (L.getD r default).1)) ∧ (∀ r, r < L.length → vs[r * 3 + 1]? = some (.int .i64 (L.getD r default).2.1)) ∧ (∀ r, r < k → vs[r * 3 + 2]? = some (.slice (some ⟨G r, 0, none⟩) (L.getD r default).2.2.length (L.getD r default).2.2.length)) ∧
    (∀ r, k ≤ r → r < L.length → ∃ na nc, vs[r * 3 + 2]? = some (.slice na (L.getD r default).2.2.length nc) ∧ IntsIn w (.slice na (L.getD r default).2.2.length nc) (L.getD r default).2.2)
  own : ∀ r, r < k → g < G r ∧ OwnV wr (G r) (ints (L.getD r default).2.2)
  inc : ∀ r s, r < s → s < k → G r < G s
theorem CopyR.next {w wr w1 : World} {g : Nat} {G : Nat → Nat} {L : List Rad} {k : Nat} (h : CopyR w wr g G L k) (hk : k < L.length) (ho : OwnV w1 wr.heap.size (ints (L.getD k default).2.2)) (hb : Below wr.heap.size wr w1) :
    CopyR w (w1.setCell ⟨g, k * 3 + 2, none⟩ (.slice (some ⟨wr.heap.size, 0, none⟩) (L.getD k default).2.2.length (L.getD k default).2.2.length)) g (fun r => if r = k then wr.heap.size else G r) L (k + 1) := by
  obtain ⟨vs, hO, hl, h0, h1, h2, h3⟩ := h.row
  have hgl := hO.lt
  have hO1 := (hO.step hb).set (k * 3 + 2) (.slice (some ⟨wr.heap.size, 0, none⟩) (L.getD k default).2.2.length (L.getD k default).2.2.length) (by omega)
  refine ⟨(Below.step h.below hb).setCell (p := ⟨g, k * 3 + 2, none⟩) h.base _, h.base, ⟨_, hO1, by rw [List.length_set]; exact hl, fun r hr => ?_, fun r hr => ?_, fun r hr => ?_, fun r h4 h5 => ?_⟩, fun r hr => ?_, fun r s hrs hs => ?_⟩
  · rw [List.getElem?_set_ne (by omega)]; exact h0 r hr
  · rw [List.getElem?_set_ne (by omega)]; exact h1 r hr
  · by_cases e : r = k
    · subst e; rw [List.getElem?_set_self (by omega), if_pos rfl]
    · rw [List.getElem?_set_ne (by omega), if_neg e]; exact h2 r (by omega)
  · rw [List.getElem?_set_ne (by omega)]; exact h3 r (by omega) h5
  · by_cases e : r = k
    · subst e
      simp only [if_true]
      exact ⟨hgl, farN ho (by omega) _ _⟩
    · simp only [if_neg e]
      obtain ⟨q1, q2⟩ := h.own r (by omega)
      exact ⟨q1, farN (q2.step hb) (by omega) _ _⟩
  · by_cases e : s = k
    · subst e
      simp only [if_true]
      rw [if_neg (by omega)]
      exact (h.own r hrs).2.lt
    · rw [if_neg (by omega), if_neg e]
      exact h.inc r s hrs (by omega)
theorem CopyR.done {w wr : World} {g : Nat} {G : Nat → Nat} {L : List Rad} (h : CopyR w wr g G L L.length) : OwnRd wr g G L := by
  obtain ⟨vs, hO, hl, h0, h1, h2, -⟩ := h.row
  refine ⟨?_, fun r hr => h.own r hr, fun r s h1 h2 => h.inc r s h1 h2⟩
  rw [← recCells_ext hl h0 h1 h2]
  exact hO

set_option maxRecDepth 10000 in
set_option maxHeartbeats 1600000 in
theorem ownRadios_any (ar : Option Addr) (cr : Nat) (L : List Rad) (w : World) (h : RadsIn w (.slice ar L.length cr) L) (hs : L.length ≤ 1048576) (hl : ∀ i, i < L.length → (L.getD i default).2.2.length ≤ 1048576) :
    Calls Try.prog 64 #[.slice ar L.length cr] w fun e w' => ∃ g G, e = .returned (.slice (some ⟨g, 0, none⟩) L.length L.length) ∧ w.heap.size ≤ g ∧ OwnRd w' g G L ∧ Below w.heap.size w w' := by
  have HCP := hide (ownCopyRadio_any ar L.length cr L w h hs)
  have HL := hide hl
  clear h hl
  go_enter Try.func64, Try.ntmps64
  go_wp2_with fail
  refine (unhide HCP).mono ?_
  rintro e w1 ⟨rfl, ⟨cs, hO, hcl, hcd⟩, hb⟩
  have HS : Hid (CopyR w w1 w.heap.size (fun _ => 0) L 0) := ⟨hb, Nat.le_refl _, ⟨cs, hO, hcl, fun r hr => (hcd r hr).1, fun r hr => (hcd r hr).2.1, fun r hr => by omega, fun r _ hr => (hcd r hr).2.2⟩, fun r hr => by omega, fun r s _ hs => by omega⟩
  clear hO hcl hcd hb HCP
  obtain ⟨g, eg⟩ : ∃ g, g = w.heap.size := ⟨_, rfl⟩
  rw [← eg] at HS ⊢
  have hgw : w.heap.size ≤ g := by omega
  clear eg
  go_wp2
  go_loopg [9] L.length (fun gg kv wr => ∃ k : Nat, ∃ G, k ≤ L.length ∧ gg = L.length - k ∧ kv = .int .i64 k ∧ Hid (CopyR w wr g G L k))
  case atStart => exact ⟨0, _, Nat.zero_le _, rfl, rfl, HS⟩
  case round =>
    obtain ⟨k, G, hk, rfl, rfl, HK⟩ := hrel
    clear HS
    by_cases hkn : k < L.length
    · have hki : (k : Int) < L.length := by omega
      obtain ⟨vs, hO, hvl, -, -, -, h3⟩ := (unhide HK).row
      obtain ⟨na, nc, h4, hI⟩ := h3 k (Nat.le_refl _) hkn
      have c2 := hO.cell h4
      have hfz := hO.frozen (k * 3 + 2)
      have hkl := unhide HL k hkn
      have HCI := hide (ownCopyInt_any na _ nc _ wr (hI.below (unhide HK).below) hkl)
      have HNX := hide fun w1 => (unhide HK).next (w1 := w1) hkn
      generalize (L.getD k default).2.2.length = m at *
      generalize (L.getD k default).2.2 = H at *
      have hOl := hO.lt
      have HO := hide hO
      clear h3 h4 hI hO
      go_wp2_with fail
      refine (unhide HCI).mono ?_
      rintro e w2 ⟨rfl, ho2, hb2⟩
      have HN2 := hide (unhide HNX w2 ho2 hb2)
      have d2 := wcell3 c2 hb2
      have dfz := ((unhide HO).step hb2).frozen (k * 3 + 2)
      clear ho2 hb2 HNX HCI
      go_wp2
      go_roundg (L.length - (k + 1))
      case measure => omega
      case rel => exact ⟨k + 1, _, by omega, rfl, by go_num, HN2⟩
    · have hkk : k = L.length := by omega
      subst hkk
      go_wp2
      go_ret
      exact ⟨g, G, rfl, hgw, (unhide HK).done, (unhide HK).below⟩

end Go.Proofs.Ytkjikjeecjendaa
