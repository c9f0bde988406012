/- Laid together out of: RdM, RdN. -/
import Derived.Test.YtkjikjeecjendaaPd

/- Radios: contracts of the program's ownCopy and ownRadios over radios, settleFirst, Settle. -/
namespace Go.Proofs.Ytkjikjeecjendaa
open Go.RowKit

theorem pick_lt {α : Type} [Inhabited α] {n : Nat} {p : Nat → α → Prop} (h : ∀ i, i < n → ∃ q, p i q) : ∃ f : Nat → α, ∀ i, i < n → p i (f i) :=
  ⟨fun i => if hi : i < n then Classical.choose (h i hi) else default, fun i hi => by simp only [dif_pos hi]; exact Classical.choose_spec (h i hi)⟩

/-- The cells of a list of radios that came in. -/
theorem rads_src {w : World} {ao : Option Addr} {m cap : Nat} {L : List Rad} (h : RadsIn w (.slice ao m cap) L) : ∃ cs : List Value, cs.length = L.length * 3 ∧ (∀ v ∈ cs, v.oneCell' = true) ∧ (0 < m → ∃ ad, ao = some ad ∧ ∀ j v, cs[j]? = some v → w.cell? (ad.add j) = some v) ∧
    ∀ r, r < L.length → cs[r * 3]? = some (.int .i64 (L.getD r default).1) ∧ cs[r * 3 + 1]? = some (.int .i64 (L.getD r default).2.1) ∧ ∃ na nc, cs[r * 3 + 2]? = some (.slice na (L.getD r default).2.2.length nc) ∧ IntsIn w (.slice na (L.getD r default).2.2.length nc) (L.getD r default).2.2 := by
  obtain ⟨ao', cap', e, h1, h2, h3⟩ := h
  simp only [Value.slice.injEq] at e
  obtain ⟨rfl, rfl, rfl⟩ := e
  have h4 : ∀ i, i < L.length → ∃ q : Option Addr × Nat, ∃ b o, ao = some ⟨b, o, none⟩ ∧ w.cell? ⟨b, o + i * 3, none⟩ = some (.int .i64 (L.getD i default).1) ∧ w.cell? ⟨b, o + i * 3 + 1, none⟩ = some (.int .i64 (L.getD i default).2.1) ∧ w.cell? ⟨b, o + i * 3 + 2, none⟩ = some (.slice q.1 (L.getD i default).2.2.length q.2) ∧ IntsIn w (.slice q.1 (L.getD i default).2.2.length q.2) (L.getD i default).2.2 := fun i hi => by
    obtain ⟨b, o, na, nc, e1, c0, c1, c2, hr⟩ := h3 i hi
    exact ⟨(na, nc), b, o, e1, c0, c1, c2, hr⟩
  obtain ⟨Q, hQ⟩ := pick_lt h4
  refine ⟨(List.range (L.length * 3)).map fun q => if q % 3 = 0 then .int .i64 (L.getD (q / 3) default).1 else if q % 3 = 1 then .int .i64 (L.getD (q / 3) default).2.1 else .slice (Q (q / 3)).1 (L.getD (q / 3) default).2.2.length (Q (q / 3)).2, by simp, fun v hv => ?_, fun hpos => ?_, fun r hr => ?_⟩
  · obtain ⟨q, _, rfl⟩ := List.mem_map.1 hv
    split
    · rfl
    · split <;> rfl
  · obtain ⟨b, o, e1, -⟩ := hQ 0 hpos
    refine ⟨⟨b, o, none⟩, e1, fun j v hj => ?_⟩
    by_cases hlt : j < L.length * 3
    · obtain ⟨b', o', e2, c0, c1, c2, -⟩ := hQ (j / 3) (by omega)
      rw [e1] at e2
      simp only [Option.some.injEq, Addr.mk.injEq, and_true] at e2
      obtain ⟨rfl, rfl⟩ := e2
      simp only [List.getElem?_map, List.getElem?_range hlt, Option.map_some, Option.some.injEq] at hj
      rw [← hj, show (⟨b, o, none⟩ : Addr).add j = ⟨b, o + j, none⟩ from by simp [Addr.add]]
      have hm : j % 3 = 0 ∨ j % 3 = 1 ∨ j % 3 = 2 := by omega
      rcases hm with e | e | e
      · rw [if_pos e, show o + j = o + j / 3 * 3 by omega]; exact c0
      · rw [if_neg (by omega), if_pos e, show o + j = o + j / 3 * 3 + 1 by omega]; exact c1
      · rw [if_neg (by omega), if_neg (by omega), show o + j = o + j / 3 * 3 + 2 by omega]; exact c2
    · rw [List.getElem?_eq_none (by simp; omega)] at hj
      cases hj
  · obtain ⟨b, o, -, -, -, -, hr'⟩ := hQ r hr
    have g : ∀ j, j < 3 → ((List.range (L.length * 3)).map fun q => if q % 3 = 0 then Value.int .i64 (L.getD (q / 3) default).1 else if q % 3 = 1 then .int .i64 (L.getD (q / 3) default).2.1 else .slice (Q (q / 3)).1 (L.getD (q / 3) default).2.2.length (Q (q / 3)).2)[r * 3 + j]? = some (if j = 0 then .int .i64 (L.getD r default).1 else if j = 1 then .int .i64 (L.getD r default).2.1 else .slice (Q r).1 (L.getD r default).2.2.length (Q r).2) := fun j hj => by
      have hlt : r * 3 + j < L.length * 3 := by omega
      rw [List.getElem?_map, List.getElem?_range hlt, Option.map_some, show (r * 3 + j) / 3 = r by omega, show (r * 3 + j) % 3 = j by omega]
    exact ⟨by simpa using g 0 (by omega), by simpa using g 1 (by omega), (Q r).1, (Q r).2, by simpa using g 2 (by omega), hr'⟩

set_option maxRecDepth 10000 in
set_option maxHeartbeats 1600000 in
theorem ownCopyRadio_any (ar : Option Addr) (m cr : Nat) (L : List Rad) (w : World) (h : RadsIn w (.slice ar m cr) L) (hm : m ≤ 1048576) :
    Calls Try.prog 84 #[.slice ar m cr] w fun e w' => e = .returned (.slice (some ⟨w.heap.size, 0, none⟩) m m) ∧ (∃ cs : List Value, OwnV w' w.heap.size cs ∧ cs.length = L.length * 3 ∧
      ∀ r, r < L.length → cs[r * 3]? = some (.int .i64 (L.getD r default).1) ∧ cs[r * 3 + 1]? = some (.int .i64 (L.getD r default).2.1) ∧ ∃ na nc, cs[r * 3 + 2]? = some (.slice na (L.getD r default).2.2.length nc) ∧ IntsIn w (.slice na (L.getD r default).2.2.length nc) (L.getD r default).2.2) ∧ Below w.heap.size w w' := by
  have hlen : L.length = m := by
    obtain ⟨ao', cap', e, _⟩ := h
    simp only [Value.slice.injEq] at e
    exact e.2.1.symm
  obtain ⟨cs, hcl, hc1, hcs, hcd⟩ := rads_src h
  have hmk := run_make_recs (P := Try.prog) 33 45 _ 3 40 Try.underlying33 Try.infoRadio .i64 .i64 m (by omega) (by omega)
  obtain ⟨Z, eZ⟩ : ∃ Z, Z = (vRadio 0 0 (.slice none 0 0)).cells := ⟨_, rfl⟩
  rw [← eZ] at hmk
  have hsz : (Try.prog.info? 45).map (·.size) = some 3 := by
    obtain ⟨i0, hi, hzz⟩ := Option.map_eq_some_iff.1 Try.infoRadio
    simp only [Prod.mk.injEq] at hzz
    rw [hi, Option.map_some, hzz.2.1]
  have A := Below.alloc1 w (.cells (madeCells Z (m * 3)) 45)
  have O := ownV_alloc w (madeCells Z (m * 3)) 45
  have hzl : (madeCells Z (m * 3)).toList.length = m * 3 := by simp [madeCells]
  have hsrc2 : 0 < m → ∃ ad, ar = some ad ∧ ∀ j v, cs[j]? = some v → (w.alloc (.cells (madeCells Z (m * 3)) 45)).cell? (ad.add j) = some v := fun hp => by
    obtain ⟨ad, e, hx⟩ := hcs hp
    exact ⟨ad, e, fun j v hj => ((A.cell (lt_of_cell (hx j v hj))).trans (hx j v hj))⟩
  obtain ⟨w1, hrun, hO1, hb1⟩ := run_copy_all 33 33 45 3 Try.underlying33 hsz w.heap.size m m ar cr _ cs O (by rw [hzl, hcl, hlen]) (by rw [hcl, hlen]) hsrc2 hc1 w.heap.size w A (Nat.le_refl _)
  have HO1 := hide hO1
  have HW1 := hide hb1
  have HCD := hide hcd
  have HCL := hide hcl
  clear h eZ A O hzl hsz hsrc2 hO1 hb1 hlen hcd hcl hc1 hcs
  go_enter Try.func84, Try.ntmps84
  go_wp2
  go_ret
  exact ⟨rfl, ⟨cs, unhide HO1, unhide HCL, unhide HCD⟩, unhide HW1⟩

/-- Up to the k-th the places are copied too. -/
structure CopyR (w wr : World) (g : Nat) (G : Nat → Nat) (L : List Rad) (k : Nat) : Prop where
  below : Below w.heap.size w wr
  base : w.heap.size ≤ g
  row : ∃ vs, OwnV wr g vs ∧ vs.length = L.length * 3 ∧ (∀ r, r < L.length → vs[r * 3]? = some (.int .i64 (L.getD r default).1)) ∧ (∀ r, r < L.length → vs[r * 3 + 1]? = some (.int .i64 (L.getD r default).2.1)) ∧ (∀ r, r < k → vs[r * 3 + 2]? = some (.slice (some ⟨G r, 0, none⟩) (L.getD r default).2.2.length (L.getD r default).2.2.length)) ∧
    (∀ r, k ≤ r → r < L.length → ∃ na nc, vs[r * 3 + 2]? = some (.slice na (L.getD r default).2.2.length nc) ∧ IntsIn w (.slice na (L.getD r default).2.2.length nc) (L.getD r default).2.2)
  own : ∀ r, r < k → g < G r ∧ OwnV wr (G r) (ints (L.getD r default).2.2)
  inc : ∀ r s, r < s → s < k → G r < G s
theorem CopyR.next {w wr w1 : World} {g : Nat} {G : Nat → Nat} {L : List Rad} {k : Nat} (h : CopyR w wr g G L k) (hk : k < L.length) (ho : OwnV w1 wr.heap.size (ints (L.getD k default).2.2)) (hb : Below wr.heap.size wr w1) :
    CopyR w (w1.setCell ⟨g, k * 3 + 2, none⟩ (.slice (some ⟨wr.heap.size, 0, none⟩) (L.getD k default).2.2.length (L.getD k default).2.2.length)) g (fun r => if r = k then wr.heap.size else G r) L (k + 1) := by
  obtain ⟨vs, hO, hl, h0, h1, h2, h3⟩ := h.row
  have hgl := hO.lt
  have hO1 := (hO.step hb).set (k * 3 + 2) (.slice (some ⟨wr.heap.size, 0, none⟩) (L.getD k default).2.2.length (L.getD k default).2.2.length) (by omega)
  refine ⟨(Below.step h.below hb).setCell (p := ⟨g, k * 3 + 2, none⟩) h.base _, h.base, ⟨_, hO1, by rw [List.length_set]; exact hl, fun r hr => ?_, fun r hr => ?_, fun r hr => ?_, fun r h4 h5 => ?_⟩, fun r hr => ?_, fun r s hrs hs => ?_⟩
  · rw [List.getElem?_set_ne (by omega)]; exact h0 r hr
  · rw [List.getElem?_set_ne (by omega)]; exact h1 r hr
  · by_cases e : r = k
    · subst e; rw [List.getElem?_set_self (by omega), if_pos rfl]
    · rw [List.getElem?_set_ne (by omega), if_neg e]; exact h2 r (by omega)
  · rw [List.getElem?_set_ne (by omega)]; exact h3 r (by omega) h5
  · by_cases e : r = k
    · subst e
      simp only [if_true]
      exact ⟨hgl, farN ho (by omega) _ _⟩
    · simp only [if_neg e]
      obtain ⟨q1, q2⟩ := h.own r (by omega)
      exact ⟨q1, farN (q2.step hb) (by omega) _ _⟩
  · by_cases e : s = k
    · subst e
      simp only [if_true]
      rw [if_neg (by omega)]
      exact (h.own r hrs).2.lt
    · rw [if_neg (by omega), if_neg e]
      exact h.inc r s hrs (by omega)
theorem CopyR.done {w wr : World} {g : Nat} {G : Nat → Nat} {L : List Rad} (h : CopyR w wr g G L L.length) : OwnRd wr g G L := by
  obtain ⟨vs, hO, hl, h0, h1, h2, -⟩ := h.row
  refine ⟨?_, fun r hr => h.own r hr, fun r s h1 h2 => h.inc r s h1 h2⟩
  rw [← recCells_ext hl h0 h1 h2]
  exact hO

set_option maxRecDepth 10000 in
set_option maxHeartbeats 1600000 in
theorem ownRadios_any (ar : Option Addr) (cr : Nat) (L : List Rad) (w : World) (h : RadsIn w (.slice ar L.length cr) L) (hs : L.length ≤ 1048576) (hl : ∀ i, i < L.length → (L.getD i default).2.2.length ≤ 1048576) :
    Calls Try.prog 64 #[.slice ar L.length cr] w fun e w' => ∃ g G, e = .returned (.slice (some ⟨g, 0, none⟩) L.length L.length) ∧ w.heap.size ≤ g ∧ OwnRd w' g G L ∧ Below w.heap.size w w' := by
  have HCP := hide (ownCopyRadio_any ar L.length cr L w h hs)
  have HL := hide hl
  clear h hl
  go_enter Try.func64, Try.ntmps64
  go_wp2_with fail
  refine (unhide HCP).mono ?_
  rintro e w1 ⟨rfl, ⟨cs, hO, hcl, hcd⟩, hb⟩
  have HS : Hid (CopyR w w1 w.heap.size (fun _ => 0) L 0) := ⟨hb, Nat.le_refl _, ⟨cs, hO, hcl, fun r hr => (hcd r hr).1, fun r hr => (hcd r hr).2.1, fun r hr => by omega, fun r _ hr => (hcd r hr).2.2⟩, fun r hr => by omega, fun r s _ hs => by omega⟩
  clear hO hcl hcd hb HCP
  obtain ⟨g, eg⟩ : ∃ g, g = w.heap.size := ⟨_, rfl⟩
  rw [← eg] at HS ⊢
  have hgw : w.heap.size ≤ g := by omega
  clear eg
  go_wp2
  go_loopg [9] L.length (fun gg kv wr => ∃ k : Nat, ∃ G, k ≤ L.length ∧ gg = L.length - k ∧ kv = .int .i64 k ∧ Hid (CopyR w wr g G L k))
  case atStart => exact ⟨0, _, Nat.zero_le _, rfl, rfl, HS⟩
  case round =>
    obtain ⟨k, G, hk, rfl, rfl, HK⟩ := hrel
    clear HS
    by_cases hkn : k < L.length
    · have hki : (k : Int) < L.length := by omega
      obtain ⟨vs, hO, hvl, -, -, -, h3⟩ := (unhide HK).row
      obtain ⟨na, nc, h4, hI⟩ := h3 k (Nat.le_refl _) hkn
      have c2 := hO.cell h4
      have hfz := hO.frozen (k * 3 + 2)
      have hkl := unhide HL k hkn
      have HCI := hide (ownCopyInt_any na _ nc _ wr (hI.below (unhide HK).below) hkl)
      have HNX := hide fun w1 => (unhide HK).next (w1 := w1) hkn
      generalize (L.getD k default).2.2.length = m at *
      generalize (L.getD k default).2.2 = H at *
      have hOl := hO.lt
      have HO := hide hO
      clear h3 h4 hI hO
      go_wp2_with fail
      refine (unhide HCI).mono ?_
      rintro e w2 ⟨rfl, ho2, hb2⟩
      have HN2 := hide (unhide HNX w2 ho2 hb2)
      have d2 := wcell3 c2 hb2
      have dfz := ((unhide HO).step hb2).frozen (k * 3 + 2)
      clear ho2 hb2 HNX HCI
      go_wp2
      go_roundg (L.length - (k + 1))
      case measure => omega
      case rel => exact ⟨k + 1, _, by omega, rfl, by go_num, HN2⟩
    · have hkk : k = L.length := by omega
      subst hkk
      go_wp2
      go_ret
      exact ⟨g, G, rfl, hgw, (unhide HK).done, (unhide HK).below⟩

end Go.Proofs.Ytkjikjeecjendaa

/- Radios: contracts of the program's settleFirst, Settle. -/
namespace Go.Proofs.Ytkjikjeecjendaa
open Go.RowKit

theorem run_lens {K L : List Rad} (hl : ∀ i, i < L.length → (L.getD i default).2.2.length ≤ 1048576) (h1 : K.length = L.length) (h2 : ∀ r, rHe K r = rHe L r) : ∀ i, i < K.length → (K.getD i default).2.2.length ≤ 1048576 := fun i hi => by
  rw [show (K.getD i default).2.2 = (L.getD i default).2.2 from h2 i]
  exact hl i (by omega)

set_option maxRecDepth 10000 in
set_option maxHeartbeats 1600000 in
theorem settleFirst_any (g : Nat) (G : Nat → Nat) (L : List Rad) (coin : Int) (w : World) (h : OwnRd w g G L) (hs : L.length ≤ 1048576) (hl : ∀ i, i < L.length → (L.getD i default).2.2.length ≤ 1048576) :
    Calls Try.prog 65 #[.slice (some ⟨g, 0, none⟩) L.length L.length, .int .i64 coin] w fun e w' => ∃ b K, e = .returned (.bool b) ∧ (b = true → stepS L coin = some K) ∧ (b = false → stepS L coin = none ∧ K = L) ∧ OwnRd w' g G K ∧ Kept (fun b => b = g) w w' := by
  have HO := hide h
  have HI := hide fun W (hW : Below w.heap.size w W) => (h.step hW).inn hs hl
  have HCL := hide (implClashes_any _ L w (h.inn hs hl))
  have HN0 := hide fun hq => stepS_no (L := L) (coin := coin) hq
  have HN1 := hide fun c hc hq => stepS_yes (L := L) (coin := coin) (c := c) hc hq
  have HME := hide fun (c : Int) hc => clashL_mem (L := L) (c := c) hc
  have HCH := hide fun c W (hW : Below w.heap.size w W) => implChoose_any _ L c coin W (unhide HI W hW)
  generalize clashL L = M at *
  clear h hl
  go_enter Try.func65, Try.ntmps65
  go_wp2_with fail
  refine (unhide HCL).mono ?_
  rintro e w1 ⟨fa, n, fc, rfl, ho, hb⟩
  have HB := hide hb
  have HM := hide ho.intsIn
  obtain ⟨hfn, hfc, hfm⟩ := ho.intsIn.len
  unfold maxLen at hfm
  have HFN := hide hfn
  clear ho hb HCL hfn
  by_cases hn0 : n = 0
  · have hfz : ((n : Int) == 0) = true := by simpa using hn0
    have HE := hide (unhide HN0 (by rw [unhide HFN]; exact hn0))
    clear hn0
    go_wp2
    go_ret
    exact ⟨false, L, rfl, fun h => (by cases h), fun _ => ⟨unhide HE, rfl⟩, (unhide HO).step (unhide HB), kept_of_below (unhide HB)⟩
  · have hfz : ((n : Int) == 0) = false := by simpa using hn0
    have hpos : (0 : Int) < n := by omega
    obtain ⟨b2, o2, rfl, hcell⟩ := intAt (unhide HM) (show 0 < n by omega)
    rw [Nat.add_zero] at hcell
    have hmem : M.getD 0 0 ∈ M := by rw [getD_lt (show 0 < M.length by rw [unhide HFN]; omega)]; exact List.getElem_mem _
    have hcb := unhide HME _ hmem
    have HE := hide (unhide HN1 _ rfl (by rw [unhide HFN]; omega))
    obtain ⟨c, hc⟩ : ∃ c : Nat, M.getD 0 0 = (c : Int) := ⟨(M.getD 0 0).toNat, by omega⟩
    rw [hc] at hcell hcb HE
    rw [Int.toNat_natCast] at HE
    have HCC := hide (unhide HCH (c : Int) w1 (unhide HB))
    generalize chooseV L (c : Int) coin = CV at HE HCC
    obtain ⟨sl, ok⟩ := CV
    have hcl : c < L.length := by omega
    have hcl' : (c : Int) < L.length := by omega
    clear hc hmem HCH HME HN0 HN1 hn0
    dsimp only at HE HCC
    go_wp2_with fail
    refine (unhide HCC).mono ?_
    rintro e w2 ⟨rfl, hb⟩
    replace HB := hide (Below.step (unhide HB) hb)
    have hcell2 := wcell3 hcell hb
    clear hb HCC hcell
    have HO2 := hide ((unhide HO).step (unhide HB))
    cases ok with
    | false =>
      rw [if_neg (by simp)] at HE
      go_wp2
      go_ret
      exact ⟨false, L, rfl, fun h => (by cases h), fun _ => ⟨unhide HE, rfl⟩, unhide HO2, kept_of_below (unhide HB)⟩
    | true =>
      rw [if_pos rfl] at HE
      have hu := (unhide HO2).1.cell (rec_at (L := L) (G := G) (r := c) (j := 1) hcl (by omega))
      have hfr := (unhide HO2).1.frozen (c * 3 + 1)
      have HO3 := hide ((unhide HO2).setSlot hcl sl)
      have HK := hide ((kept_of_below (T := fun b => b = g) (unhide HB)).setCell (p := ⟨g, c * 3 + 1, none⟩) rfl (.int .i64 sl))
      generalize eRd ((L.getD c default).1, (L.getD c default).2.1, (L.getD c default).2.2.length, G c) 1 = u1 at hu
      go_wp2
      go_ret
      exact ⟨true, _, rfl, fun _ => unhide HE, fun h => (by cases h), unhide HO3, unhide HK⟩

/-- What Settle tells, in numbers. -/
noncomputable def settleV (L : List Rad) (C : List Int) : List Rad × Int × Bool :=
  if radsB L = true ∧ coinsB C = true then ((runS L C).1, ((runS L C).2 : Int), decide ((clashL (runS L C).1).length = 0)) else ([], 0, false)
theorem settleV_no {L : List Rad} {C : List Int} (h : ¬ (radsB L = true ∧ coinsB C = true)) : settleV L C = ([], 0, false) := by unfold settleV; rw [if_neg h]
theorem settleV_yes {L K : List Rad} {C : List Int} {u : Nat} (h1 : radsB L = true) (h2 : coinsB C = true) (h : runS L C = (K, u)) : settleV L C = (K, (u : Int), decide ((clashL K).length = 0)) := by unfold settleV; rw [if_pos ⟨h1, h2⟩, h]

/-- A list of radios of the call's own, its blocks from B on; nothing where it is empty. -/
def OwnRs (B : Nat) (w : World) (v : Value) (L : List Rad) : Prop := L = [] ∧ (∃ a c, v = .slice a 0 c ∧ c ≤ maxLen) ∨ ∃ g G, v = .slice (some ⟨g, 0, none⟩) L.length L.length ∧ B ≤ g ∧ OwnRd w g G L

set_option maxRecDepth 10000 in
set_option maxHeartbeats 3200000 in
theorem implSettle_any (v cv : Value) (L : List Rad) (C : List Int) (w : World) (h : RadsIn w v L) (hC : IntsIn w cv C) (hs : L.length ≤ 1048576) (hl : ∀ i, i < L.length → (L.getD i default).2.2.length ≤ 1048576) :
    Calls Try.prog 22 #[v, cv] w fun e w' => ∃ a n cp, e = .returned (.tuple #[.slice a n cp, .int .i64 (settleV L C).2.1, .bool (settleV L C).2.2]) ∧ OwnRs w.heap.size w' (.slice a n cp) (settleV L C).1 ∧ Below w.heap.size w w' := by
  have HV := hide h
  have HVC := hide hC
  have HOKC := hide (implRadiosOk_any v L w h)
  have HCK := hide fun W (hW : Below w.heap.size w W) => coinsOk_any cv C W (hC.below hW)
  have HL := hide hl
  obtain ⟨ao, cap, rfl, hlc, hm, hc⟩ := h
  obtain ⟨ca, cc, rfl, hcl, hcm, hcc⟩ := hC
  unfold maxLen at hm hcm
  have HCC := hide hcc
  clear hc hcc hl
  cases hrb : radsB L with
  | false =>
    have EC := hide (settleV_no (L := L) (C := C) (by rw [hrb]; simp))
    rw [hrb] at HOKC
    clear hrb
    go_enter Try.func22, Try.ntmps22
    go_wp2_with fail
    refine (unhide HOKC).mono ?_
    rintro e w1 ⟨rfl, hb⟩
    have HB := hide hb
    clear hb
    go_wp2
    refine bodyPost_ret (v := .tuple #[.slice none 0 0, .int .i64 0, .bool false]) (by simp [results, Try.results22, go_sem]) rfl ⟨none, 0, 0, by rw [unhide EC], by rw [unhide EC]; exact Or.inl ⟨rfl, none, 0, rfl, Nat.zero_le _⟩, unhide HB⟩
  | true =>
  have HRB := hide hrb
  rw [hrb] at HOKC
  cases hcb : coinsB C with
  | false =>
    have EC := hide (settleV_no (L := L) (C := C) (by rw [hcb]; simp))
    rw [hcb] at HCK
    clear hrb hcb
    go_enter Try.func22, Try.ntmps22
    go_wp2_with fail
    refine (unhide HOKC).mono ?_
    rintro e w1 ⟨rfl, hb⟩
    have HB := hide hb
    clear hb
    go_wp2_with fail
    refine (unhide HCK _ (unhide HB)).mono ?_
    rintro e w2 ⟨rfl, h9⟩
    have h8 := h9.symm
    subst h8
    clear h9
    go_wp2
    refine bodyPost_ret (v := .tuple #[.slice none 0 0, .int .i64 0, .bool false]) (by simp [results, Try.results22, go_sem]) rfl ⟨none, 0, 0, by rw [unhide EC], by rw [unhide EC]; exact Or.inl ⟨rfl, none, 0, rfl, Nat.zero_le _⟩, unhide HB⟩
  | true =>
  have HCB := hide hcb
  rw [hcb] at HCK
  have HY := hide fun K u hK => settleV_yes (K := K) (u := u) hrb hcb hK
  have hC200 : C.length ≤ 200 := by
    unfold coinsB at hcb
    simp only [Bool.and_eq_true, decide_eq_true_eq] at hcb
    exact hcb.1
  generalize settleV L C = SV at *
  clear hrb hcb
  go_enter Try.func22, Try.ntmps22
  go_wp2_with fail
  refine (unhide HOKC).mono ?_
  rintro e w1 ⟨rfl, hb⟩
  have HB := hide hb
  clear hb HOKC
  go_wp2_with fail
  refine (unhide HCK _ (unhide HB)).mono ?_
  rintro e w2 ⟨rfl, h9⟩
  have h8 := h9.symm
  subst h8
  clear h9 HCK
  go_wp2_with fail
  refine (ownRadios_any _ _ L _ ((unhide HV).below (unhide HB)) hs (unhide HL)).mono ?_
  rintro e w3 ⟨g, G, rfl, hg, hO, hb⟩
  have hgw : w.heap.size ≤ g := Nat.le_trans (unhide HB).size hg
  have HB3 := hide (Below.step (unhide HB) hb)
  have HO := hide hO
  clear hO hb HB hg
  go_wp2
  go_loopg [8] C.length (fun gg uv wr => ∃ (u : Nat) (K : List Rad), u ≤ C.length ∧ gg = C.length - u ∧ uv = .int .i64 u ∧ Below w.heap.size w wr ∧ OwnRd wr g G K ∧ Hid (Run L C K u))
  case atStart => exact ⟨0, L, Nat.zero_le _, rfl, rfl, unhide HB3, unhide HO, Run.start L C⟩
  case round =>
    obtain ⟨u, K, hu, rfl, rfl, hW, hO, HR⟩ := hrel
    clear HB3 HO
    have hKl := (unhide HR).len
    have hKs : K.length ≤ 1048576 := by omega
    have hKL := run_lens (unhide HL) (unhide HR).len (unhide HR).he
    have HW := hide hW
    have HO := hide hO
    have HEND : Hid (∀ W, Below w.heap.size w W → OwnRd W g G K → RadsIn W (.slice (some ⟨g, 0, none⟩) L.length L.length) K) := fun W _ hoW => by
      have := hoW.inn hKs hKL
      rw [hKl] at this
      exact this
    clear hW hO
    by_cases hul : u < C.length
    · obtain ⟨cb, co, rfl, hcell⟩ := unhide HCC u hul
      have c0 := wcell3 hcell (unhide HW)
      have hui : (u : Int) < C.length := by omega
      have HSF := hide (settleFirst_any g G K (C.getD u 0) _ (unhide HO) hKs hKL)
      rw [hKl] at HSF
      have HST := hide fun K' h => (unhide HR).step (K' := K') hul h
      have HDN := hide fun h => (unhide HR).done (runS_none (L := K) hul h)
      generalize C.getD u 0 = coin at *
      clear hcell
      go_wp2_with fail
      refine (unhide HSF).mono ?_
      rintro e w4 ⟨b, K', rfl, hbt, hbf, hO4, hk4⟩
      have HB4 := hide ((unhide HW).trans (hk4.below (B := w.heap.size) (unhide HW).size (fun b e => by omega)))
      have HO4 := hide hO4
      clear hk4 hO4 HSF
      cases b with
      | true =>
        have HR2 := hide (unhide HST K' (hbt rfl))
        clear hbt hbf HST HDN
        go_wp2
        go_roundg (C.length - (u + 1))
        case measure => omega
        case rel => exact ⟨u + 1, K', by omega, rfl, by go_num, unhide HB4, unhide HO4, HR2⟩
      | false =>
        obtain ⟨hno, hKK⟩ := hbf rfl
        subst hKK
        have EC := hide (unhide HY _ _ (unhide HDN hno))
        have HCL := hide (implClashes_any _ K' _ (unhide HEND _ (unhide HB4) (unhide HO4)))
        clear hbt hbf hno HST HDN
        go_wp2_with fail
        refine (unhide HCL).mono ?_
        rintro e w5 ⟨fa, n, fc, rfl, ho, hb⟩
        have HB5 := hide (Below.step (unhide HB4) hb)
        have HO5 := hide ((unhide HO4).step hb)
        have hfn := ho.intsIn.len.1
        rw [hfn] at EC
        clear ho hb HCL hfn
        have hdn : ((n : Int) == 0) = decide (n = 0) := by by_cases e : n = 0 <;> simp [e]
        go_wp2
        refine bodyPost_ret (v := .tuple #[.slice (some ⟨g, 0, none⟩) L.length L.length, .int .i64 u, .bool (decide (n = 0))]) (by simp [results, Try.results22, go_sem]) rfl ⟨_, _, _, by rw [unhide EC], by rw [unhide EC]; exact Or.inr ⟨g, G, by rw [hKl], hgw, unhide HO5⟩, unhide HB5⟩
    · have EC := hide (unhide HY _ _ ((unhide HR).done (runS_end (L := K) (by omega))))
      have HCL := hide (implClashes_any _ K _ (unhide HEND _ (unhide HW) (unhide HO)))
      go_wp2_with fail
      refine (unhide HCL).mono ?_
      rintro e w5 ⟨fa, n, fc, rfl, ho, hb⟩
      have HB5 := hide (Below.step (unhide HW) hb)
      have HO5 := hide ((unhide HO).step hb)
      have hfn := ho.intsIn.len.1
      rw [hfn] at EC
      clear ho hb HCL hfn
      have hdn : ((n : Int) == 0) = decide (n = 0) := by by_cases e : n = 0 <;> simp [e]
      go_wp2
      refine bodyPost_ret (v := .tuple #[.slice (some ⟨g, 0, none⟩) L.length L.length, .int .i64 u, .bool (decide (n = 0))]) (by simp [results, Try.results22, go_sem]) rfl ⟨_, _, _, by rw [unhide EC], by rw [unhide EC]; exact Or.inr ⟨g, G, by rw [hKl], hgw, unhide HO5⟩, unhide HB5⟩

end Go.Proofs.Ytkjikjeecjendaa
