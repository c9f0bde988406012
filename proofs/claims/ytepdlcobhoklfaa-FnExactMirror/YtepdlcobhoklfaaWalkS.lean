/- The hull seen from the other end: the contracts of the program's ownCopy and Mirror. -/
import Derived.Test.YtepdlcobhoklfaaWalkR
import Derived.ArgAppend
import Derived.WideShapes
namespace Go.Proofs.Ytepdlcobhoklfaa
open Go.RowKit

set_option maxHeartbeats 800000 in
theorem ownCopy_any (ar : Option Addr) (m cr : Nat) (xs : List Int) (w : World) (h : IntsIn w (.slice ar m cr) xs) (hpos : 0 < m) (hm : m ≤ 1048576) :
    Calls Try.prog 46 #[.slice ar m cr] w fun e w' => ∃ g cap, e = .returned (.slice (some ⟨g, 0, none⟩) m cap) ∧ w.heap.size ≤ g ∧ m ≤ cap ∧ cap ≤ maxLen ∧ OwnV w' g (ints xs) ∧ Below w.heap.size w w' := by
  obtain ⟨el, hmc, hcm⟩ := h.len
  obtain ⟨b, o, rfl, hx0⟩ := intAt h hpos
  have hcells : ∀ j u, (ints xs)[j]? = some u → w.cell? ((⟨b, o, none⟩ : Addr).add j) = some u := fun j u hu => by
    have hj : j < xs.length := by
      rcases Nat.lt_or_ge j xs.length with h | h
      · exact h
      · rw [List.getElem?_eq_none (by rw [ints_length]; exact h)] at hu; cases hu
    obtain ⟨b', o', e, hx⟩ := intAt h (by omega : j < m)
    simp only [Option.some.injEq, Addr.mk.injEq, and_true] at e
    obtain ⟨rfl, rfl⟩ := e
    rw [Go.WideShapes.add_plain, hx, ← hu, ints_get xs hj]
  have h1c : ∀ u ∈ ints xs, u.oneCell' = true := fun u hu => by
    obtain ⟨x, _, rfl⟩ := List.mem_map.1 hu
    rfl
  obtain ⟨i0, hi, hz0, hz1, hz2⟩ := info_parts Try.info3
  have EL := hide el
  have HC := hide hcells
  have H1 := hide h1c
  have hil := ints_length xs
  rw [el] at hil
  have HI := hide hil
  clear h hx0 hcells h1c el hil
  unfold maxLen at hcm
  go_enter Try.func46, Try.ntmps46
  go_wp2_with (at_builtin; refine wpList_append_grows _ rfl _ _ 31 rfl 3 i0 (.int .i64 0) 1 8 Try.underlying31 hi hz0 hz1 hz2 rfl (by decide) (some ⟨b, o, none⟩) 0 0 [] ?q1 (fun e => by cases e) rfl (fun _ _ j u hu => by simp at hu) ⟨b, o, none⟩ m cr (ints xs) ?q2 (by rw [unhide HI]; omega) (unhide HC) (unhide H1) (by omega) (by unfold maxLen; omega) (by omega) ?_)
  case q1 => rfl
  case q2 => rfl
  intro v' w' hown hgrow
  have hb : Below w.heap.size w w' := (Below.refl _ _).grown hgrow (Nat.le_refl _) (fun k hk => by cases hk)
  obtain ⟨g, cap, hv, hg, hc1, hc2, hov⟩ : ∃ g cap, v' = .slice (some ⟨g, 0, none⟩) m cap ∧ w.heap.size ≤ g ∧ m ≤ cap ∧ cap ≤ maxLen ∧ OwnV w' g (ints xs) := by
    obtain ⟨_, h2⟩ := hown
    rcases h2 with ⟨_, h0⟩ | ⟨g, cap, cur, hv, hg, hh, hc, hm', hs, ht⟩
    · omega
    · refine ⟨g, cap, by simpa using hv, hg, by simpa using hc, hm', cur, _, hh, fun i hi => ?_⟩
      rw [← ht]
      rw [unhide HI] at hi
      simp [hi]
  have HB := hide hb
  have HO := hide hov
  clear hown hgrow hb hov HC H1
  rw [hv]
  clear hv
  go_wp2
  go_ret
  exact ⟨g, cap, rfl, hg, hc1, hc2, unhide HO, unhide HB⟩

/-- The rows from the other end. -/
def mirrorR (R : List (List Int)) : List (List Int) := (List.range R.length).map fun s : Nat => R.getD (R.length - 1 - s) []

theorem mirrorR_len (R : List (List Int)) : (mirrorR R).length = R.length := by simp [mirrorR]
theorem mirrorR_get (R : List (List Int)) {s : Nat} (h : s < R.length) : (mirrorR R).getD s [] = R.getD (R.length - 1 - s) [] := by simp [mirrorR, List.getD, h]

def mStep (step rise : Int) (R : List (List Int)) : Int := if hullOk step rise R = true then step else 0
def mRise (step rise : Int) (R : List (List Int)) : Int := if hullOk step rise R = true then rise else 0
def mRows (step rise : Int) (R : List (List Int)) : List (List Int) := if hullOk step rise R = true then mirrorR R else []

/-- A list of rows of the call's own, or nothing. -/
def OwnRowsV (B : Nat) (w : World) (v : Value) (R : List (List Int)) : Prop :=
  (R = [] ∧ v = .slice none 0 0) ∨ ∃ g G C cap, v = .slice (some ⟨g, 0, none⟩) R.length cap ∧ R.length ≤ cap ∧ cap ≤ maxLen ∧ OwnRows B w g G C R

/-- The new list of rows, k of them made. -/
structure FillM (w wr : World) (M : List (List Int)) (k : Nat) (G C : Nat → Nat) : Prop where
  below : Below w.heap.size w wr
  top : wr.rowIs w.heap.size 31 M.length (fun r => if r < k then .slice (some ⟨G r, 0, none⟩) (M.getD r []).length (C r) else .slice none 0 0)
  rows : ∀ r, r < k → OwnV wr (G r) (ints (M.getD r []))
  caps : ∀ r, r < k → (M.getD r []).length ≤ C r ∧ C r ≤ maxLen
  above : ∀ r, r < k → w.heap.size < G r
  apart : ∀ r s, r < k → s < k → r ≠ s → G r ≠ G s

theorem fillM_start (w : World) (M : List (List Int)) (n : Nat) (hn : n = M.length) : FillM w (w.alloc (.cells (madeCells #[.slice none 0 0] n) 31)) M 0 (fun _ => 0) (fun _ => 0) := by
  subst hn
  exact ⟨(Below.refl _ _).alloc (Nat.le_refl _) _, (World.rowIs_made w _ M.length 31).congr (fun j _ => by simp), fun r hr => by omega, fun r hr => by omega, fun r hr => by omega, fun r s hr => by omega⟩

theorem fillM_step {w wr w2 w3 : World} {M : List (List Int)} {k g cap : Nat} {G C : Nat → Nat} (h : FillM w wr M k G C) (hb2 : Below wr.heap.size wr w2) (hg : w2.heap.size ≤ g) (ho : OwnV w3 g (ints (M.getD k []))) (hb3 : Below w2.heap.size w2 w3)
    (hc1 : (M.getD k []).length ≤ cap) (hc2 : cap ≤ maxLen) :
    FillM w (w3.setCell ⟨w.heap.size, k, none⟩ (.slice (some ⟨g, 0, none⟩) (M.getD k []).length cap)) M (k + 1) (fun r => if r = k then g else G r) (fun r => if r = k then cap else C r) := by
  have hlt := h.top.lt
  have hs2 := hb2.size
  have hB : Below wr.heap.size wr w3 := Below.step hb2 hb3
  have old : ∀ r, r < k → G r < wr.heap.size := fun r hr => (h.rows r hr).lt
  refine ⟨(Below.step h.below hB).setCell (Nat.le_refl _) _, ((h.top.of_block (hB.block _ hlt)).set k _).congr (fun i _ => ?_), fun r hr => ?_, fun r hr => ?_, fun r hr => ?_, fun r s hr hs hne => ?_⟩
  · by_cases e : i = k
    · subst e; simp
    · rw [if_neg e]
      by_cases hi : i < k
      · rw [if_pos hi, if_pos (by omega), if_neg e, if_neg e]
      · rw [if_neg hi, if_neg (by omega)]
  · by_cases e : r = k
    · subst e
      simp only [if_true]
      exact ho.other (by show g ≠ w.heap.size; omega) _
    · have hr' : r < k := by omega
      rw [if_neg e]
      exact ((h.rows r hr').below hB (h.rows r hr').lt).other (by have := h.above r hr'; show G r ≠ w.heap.size; omega) _
  · by_cases e : r = k
    · subst e; simp only [if_true]; exact ⟨hc1, hc2⟩
    · rw [if_neg e]; exact h.caps r (by omega)
  · by_cases e : r = k
    · subst e; simp only [if_true]; omega
    · rw [if_neg e]; exact h.above r (by omega)
  · by_cases er : r = k
    · subst er
      rw [if_pos rfl, if_neg (fun e => hne e.symm)]
      have := old s (by omega)
      omega
    · rw [if_neg er]
      by_cases es : s = k
      · subst es
        rw [if_pos rfl]
        have := old r (by omega)
        omega
      · rw [if_neg es]
        exact h.apart r s (by omega) (by omega) hne

theorem fillM_done {w wr : World} {M : List (List Int)} {G C : Nat → Nat} (h : FillM w wr M M.length G C) : OwnRows w.heap.size wr w.heap.size G C M :=
  ⟨Nat.le_refl _, rowIs_ownV h.top (tops_length _ _ M) (fun i hi => by rw [tops_get _ _ M hi, if_pos hi]), h.rows, h.caps, fun r hr => ⟨by have := h.above r hr; omega, by have := h.above r hr; omega⟩, h.apart⟩

theorem ownV_alloc (w : World) (c : Array Value) (t : TypeId) : OwnV (w.alloc (.cells c t)) w.heap.size c.toList :=
  ⟨c, t, Go.Deep.blk_alloc_new _ _, fun i _ => by simp⟩

set_option maxHeartbeats 1600000 in
theorem implMirror_any (step rise : Int) (v : Value) (R : List (List Int)) (w : World) (h : RowsIn w v R) :
    Calls Try.prog 16 #[hullV step rise v] w fun e w' => ∃ ao n cap, e = .returned (hullV (mStep step rise R) (mRise step rise R) (.slice ao n cap)) ∧ OwnRowsV w.heap.size w' (.slice ao n cap) (mRows step rise R) ∧ Below w.heap.size w w' := by
  have HV := hide h
  obtain ⟨ao, cap, rfl, hl, hm, hc⟩ := h
  unfold maxLen at hm
  clear hc
  unfold hullV
  have A2 : Below w.heap.size w ((w.alloc (.cells #[.int .i64 step, .int .i64 rise, .slice ao R.length cap] 26)).alloc (.cells #[.int .i64 0, .int .i64 0, .slice none 0 0] 26)) := (Below.alloc1 _ _).alloc (by simp) _
  have B2 : Box3 ((w.alloc (.cells #[.int .i64 step, .int .i64 rise, .slice ao R.length cap] 26)).alloc (.cells #[.int .i64 0, .int .i64 0, .slice none 0 0] 26)) w.heap.size (.int .i64 step) (.int .i64 rise) (.slice ao R.length cap) := (box3_alloc w _ _ _ 26).step (Below.alloc1 _ _)
  have O2 : OwnV ((w.alloc (.cells #[.int .i64 step, .int .i64 rise, .slice ao R.length cap] 26)).alloc (.cells #[.int .i64 0, .int .i64 0, .slice none 0 0] 26)) (w.heap.size + 1) [.int .i64 0, .int .i64 0, .slice none 0 0] := by
    have := ownV_alloc (w.alloc (.cells #[.int .i64 step, .int .i64 rise, .slice ao R.length cap] 26)) #[.int .i64 0, .int .i64 0, .slice none 0 0] 26
    simpa using this
  have HA2 := hide A2
  have HB2 := hide B2
  have HO2 := hide O2
  clear A2 B2 O2
  go_enter Try.func16, Try.ntmps16
  go_wp2_with fail
  refine (implHullOk_any step rise _ R _ ((unhide HV).below (unhide HA2))).mono ?_
  rintro e w1 ⟨rfl, hb⟩
  have HB1 := hide ((unhide HB2).step hb)
  have HW1 := hide (Below.step (unhide HA2) hb)
  have HO1 := hide ((unhide HO2).below hb (unhide HO2).lt)
  have hz : w.heap.size + 1 < w1.heap.size := (unhide HO1).lt
  clear hb HB2 HA2 HO2
  cases hok : hullOk step rise R with
  | false =>
    have E1 : Hid (mStep step rise R = 0 ∧ mRise step rise R = 0 ∧ mRows step rise R = []) := by show _ ∧ _ ∧ _; simp [mStep, mRise, mRows, hok]
    clear hok
    have r0 := (unhide HO1).cell (i := 0) rfl
    have r1 := (unhide HO1).cell (i := 1) rfl
    have r2 := (unhide HO1).cell (i := 2) rfl
    have s0 := (unhide HO1).frozen 0
    have s1 := (unhide HO1).frozen 1
    have s2 := (unhide HO1).frozen 2
    go_wp2
    refine bodyPost_ret (v := .agg #[.int .i64 0, .int .i64 0, .slice none 0 0]) (by simp [results, Try.results16, go_sem, r0, r1, r2]) rfl ⟨none, 0, 0, ?_, ?_, ?_⟩
    · rw [(unhide E1).1, (unhide E1).2.1]
    · rw [(unhide E1).2.2]; exact Or.inl ⟨rfl, rfl⟩
    · exact (((unhide HW1).setCell (by simp) _).setCell (by simp) _).setCell (by simp) _
  | true =>
    have E1 : Hid (mStep step rise R = step ∧ mRise step rise R = rise ∧ mRows step rise R = mirrorR R) := by show _ ∧ _ ∧ _; simp [mStep, mRise, mRows, hok]
    have hR := hullOk_right hok
    have hl1 := hR.len1
    have hl2 := hR.len2
    have HR := hide hR
    clear hok hR
    have hmk := run_make_row' (P := Try.prog) 24 31 (.slice none 0 0) 24 Try.underlying24 Try.info31 rfl .i64 .i64 R.length (by omega) (by omega)
    obtain ⟨c0, c1, c2⟩ := unhide HB1
    go_wp2
    clear hmk c0 c1 c2
    go_loopg [20] R.length (fun gh iv wr => ∃ k : Nat, ∃ G C, k ≤ R.length ∧ gh = R.length - k ∧ iv = .int .i64 k ∧ FillM w1 wr (mirrorR R) k G C)
    case atStart => exact ⟨0, _, _, Nat.zero_le _, rfl, rfl, fillM_start _ _ _ (mirrorR_len R).symm⟩
    case round =>
      obtain ⟨k, G, C, hk, rfl, rfl, hF⟩ := hrel
      obtain ⟨c0, c1, c2⟩ := (unhide HB1).step hF.below
      have HWr := hide (Below.step (unhide HW1) hF.below)
      have HF := hide hF
      clear hF
      by_cases hkn : k < R.length
      · have HS := hide (station_any step rise _ R ((R.length : Int) - 1 - (k : Int)) (R.length - 1 - k) wr ((unhide HV).below (unhide HWr)) (by omega) (by omega))
        go_wp2_with fail
        refine (unhide HS).mono ?_
        rintro e w2 ⟨ar, m, rfl, hi, hb2⟩
        have hml : m = (R.getD 0 []).length := by rw [← (unhide HR).even (R.length - 1 - k) (by omega)]; exact hi.len.1.symm
        have hm1 : 2 ≤ m := by rw [hml]; exact (unhide HR).wat1
        have hm2 : m ≤ 10 := by rw [hml]; exact (unhide HR).wat2
        have EM : Hid ((R.getD (R.length - 1 - k) []).length = m) := hi.len.1
        have HI := hide (hi.below hb2)
        have HB2 := hide hb2
        clear hi hb2 hml HS c0 c1 c2
        go_wp2_with fail
        refine (ownCopy_any ar m m _ w2 (unhide HI) (by omega) (by omega)).mono ?_
        rintro e w3 ⟨g, cap3, rfl, hg, hc1, hc2, hov, hb3⟩
        rw [← mirrorR_get R hkn] at hov EM
        have HN := hide (fillM_step (unhide HF) (unhide HB2) hg hov hb3 (by rw [unhide EM]; exact hc1) hc2)
        rw [unhide EM] at HN
        have hbt := ((unhide HF).top.of_block ((unhide HB2).block _ (unhide HF).top.lt)).of_block (hb3.block _ (Nat.lt_of_lt_of_le (unhide HF).top.lt (unhide HB2).size))
        have t1 : w3.cell? ⟨w1.heap.size, k, none⟩ = some (.slice none 0 0) := by
          have h3 := hbt.cell (i := k) (by rw [mirrorR_len]; exact hkn)
          rwa [if_neg (Nat.lt_irrefl k)] at h3
        have t2 : w3.frozen? ⟨w1.heap.size, k, none⟩ = false := hbt.frozen k
        clear hov hb3 hg hc1 hc2 hbt HI HB2
        go_wp2
        go_roundg (R.length - (k + 1))
        case measure => omega
        case rel => exact ⟨k + 1, _, _, by omega, rfl, by go_num, unhide HN⟩
      · have hkk : k = R.length := by omega
        have HF' : Hid (FillM w1 wr (mirrorR R) (mirrorR R).length G C) := by show FillM _ _ _ _ _ _; rw [mirrorR_len, ← hkk]; exact unhide HF
        have hO := (unhide HO1).below (unhide HF).below (unhide HO1).lt
        have r0 := hO.cell (i := 0) rfl
        have r1 := hO.cell (i := 1) rfl
        have r2 := hO.cell (i := 2) rfl
        have s0 := hO.frozen 0
        have s1 := hO.frozen 1
        have s2 := hO.frozen 2
        clear hO HF hkk
        go_wp2
        refine bodyPost_ret (v := .agg #[.int .i64 step, .int .i64 rise, .slice (some ⟨w1.heap.size, 0, none⟩) R.length R.length]) (by simp [results, Try.results16, go_sem, r0, r1, r2]) rfl ⟨some ⟨w1.heap.size, 0, none⟩, R.length, R.length, ?_, ?_, ?_⟩
        · rw [(unhide E1).1, (unhide E1).2.1]
        · rw [(unhide E1).2.2]
          refine Or.inr ⟨w1.heap.size, G, C, R.length, by rw [mirrorR_len], by rw [mirrorR_len]; exact Nat.le_refl _, by unfold maxLen; omega, ?_⟩
          exact ((((fillM_done (unhide HF')).setBelow (by simpa using hz) _).setBelow (by simpa using hz) _).setBelow (by simpa using hz) _).mono (by omega)
        · exact (((unhide HWr).setCell (by simp) _).setCell (by simp) _).setCell (by simp) _

end Go.Proofs.Ytepdlcobhoklfaa
