/- Laid together out of: RdJ, Grow, RdO, FmI, LawFnFrames, OpenBytes. -/
import Derived.Test.YtkjikjeecjendaaPd
import Derived.Test.YtkjikjeecjendaaPf
import Derived.Test.YtkjikjeecjendaaPa
import Derived.Deep.AppendLies
import Derived.Test.YtkjikjeecjendaaPe
import Derived.Deep.DeepCutAuto
import Derived.Test.YtkjikjeecjendaaPc
import Derived.Test.YtkjikjeecjendaaPb
import Derived.Laws.StructEq
import Derived.BigRegion
import Derived.ProofKit
import Derived.OpenShut
import Derived.ShutString
import Derived.ChangeOld
import Derived.Below

/- Radios: contracts of the specification's Clashes, Choose. -/
namespace Go.Proofs.Ytkjikjeecjendaa
open Go.RowKit

/-- One of the first k that the radio hears has its slot. -/
noncomputable def hitB (L : List Rad) (i k : Nat) : Bool := pB (∃ q, q < k ∧ slK L i q = rSl L i)
theorem hitB_zero (L : List Rad) (i : Nat) : hitB L i 0 = false := pB_false fun ⟨q, h, _⟩ => by omega
theorem hitB_true {L : List Rad} {i k : Nat} (h : hitB L i k = true) : hitB L i (k + 1) = true := by
  obtain ⟨q, h1, h2⟩ := of_pB h
  exact pB_true ⟨q, by omega, h2⟩
theorem hitB_false {L : List Rad} {i k : Nat} (h : hitB L i k = false) : hitB L i (k + 1) = (slK L i k == rSl L i) := by
  cases hq : (slK L i k == rSl L i) with
  | true => exact pB_true ⟨k, by omega, by simpa using hq⟩
  | false =>
    refine pB_false fun ⟨q, h1, h2⟩ => ?_
    by_cases e : q = k
    · subst e; simp [h2] at hq
    · exact not_pB h ⟨q, by omega, h2⟩
theorem hitB_all (L : List Rad) (i : Nat) : hitB L i (rHe L i).length = pB (Heard L i (rSl L i)) := rfl

set_option maxRecDepth 10000 in
set_option maxHeartbeats 3200000 in
theorem specClashes_any (v : Value) (L : List Rad) (w : World) (h : RadsIn w v L) :
    Calls Try.prog 40 #[v] w fun e w' => ∃ a n cp, e = .returned (.slice a n cp) ∧ OwnSl w.heap.size w' (.slice a n cp) (clashL L) ∧ Below w.heap.size w w' := by
  obtain ⟨i0, hinf, hzz⟩ := Option.map_eq_some_iff.1 Try.infoIntCp
  simp only [Prod.mk.injEq] at hzz
  obtain ⟨hz0, hz1, hz2⟩ := hzz
  have HV := hide h
  have HOKC := hide fun W (hW : Below w.heap.size w W) => specRadiosOk_any v L W (h.below hW)
  obtain ⟨ao, cap, rfl, hl, hm, hc⟩ := h
  unfold maxLen at hm
  have HC := hide hc
  clear hc
  have HM0 := hide (World.ownsRow_made (base := w.heap.size) (e := 3) (size := 1) w #[] 0 (Nat.le_refl _) (Nat.zero_le _) (by simp))
  have HB0 := hide (Below.alloc1 w (.cells #[] 3))
  cases hrb : radsB L with
  | false =>
    have EC := hide (clashL_no hrb)
    rw [hrb] at HOKC
    clear hrb
    go_enter Try.func40, Try.ntmps40
    go_wp2
    go_loopg [3, 4] 0 (fun _ ov iv wr => iv = .int .i64 0 ∧ ov = .slice (some ⟨w.heap.size, 0, none⟩) 0 0 ∧ Below w.heap.size w wr)
    case atStart => exact ⟨rfl, rfl, unhide HB0⟩
    case round =>
      obtain ⟨rfl, rfl, hW⟩ := hrel
      have HW := hide hW
      clear hW
      by_cases hpos : (0 : Int) < L.length
      · go_wp2_with fail
        refine (unhide HOKC _ (unhide HW)).mono ?_
        rintro e w1 ⟨rfl, hb⟩
        have HB := hide (Below.step (unhide HW) hb)
        clear hb
        go_wp2
        go_ret
        exact ⟨_, 0, 0, rfl, by rw [unhide EC]; exact ⟨_, 0, rfl, Nat.le_refl _, Nat.zero_le _, fun h => absurd rfl h⟩, unhide HB⟩
      · have hd : decide ((0 : Int) < L.length) = false := by rw [decide_eq_false_iff_not]; exact hpos
        have hd2 : decide (0 < L.length) = false := by rw [decide_eq_false_iff_not]; omega
        clear hpos
        go_wp2
        go_ret
        exact ⟨_, 0, 0, rfl, by rw [unhide EC]; exact ⟨_, 0, rfl, Nat.le_refl _, Nat.zero_le _, fun h => absurd rfl h⟩, unhide HW⟩
  | true =>
  have EC := hide (clashL_yes hrb)
  have HOK := hide (of_pB (p := RadsOk L) hrb)
  have hn24 := (unhide HOK).2.1
  rw [hrb] at HOKC
  clear hrb
  go_enter Try.func40, Try.ntmps40
  go_wp2
  go_loopg [3, 4] L.length (fun gg ov iv wr => ∃ i : Nat, i ≤ L.length ∧ gg = L.length - i ∧ iv = .int .i64 i ∧ Below w.heap.size w wr ∧ (∃ a n cp, ov = .slice a n cp) ∧ Hid (wr.ownsRow w.heap.size 3 1 ov (clashU L i).length (ints (clashU L i))))
  case atStart => exact ⟨0, Nat.zero_le _, rfl, rfl, unhide HB0, ⟨_, _, _, rfl⟩, HM0⟩
  case round =>
    obtain ⟨i, hi, rfl, rfl, hW, ⟨a, n, cp, rfl⟩, HR⟩ := hrel
    clear HB0 HM0
    by_cases hin : i < L.length
    · obtain ⟨b, o, na, nc, id, sl, H, m, rfl, hc0, hc1, hc2, hr, EX, EM, hm0⟩ := radAt (unhide HC) hin
      have hii : (i : Int) < L.length := by omega
      have ESL : Hid (rSl L i = sl) := by show (L.getD i default).2.1 = sl; rw [unhide EX]
      have E3 : Hid (rHe L i = H) := by show (L.getD i default).2.2 = H; rw [unhide EX]
      have HW := hide hW
      have EY := hide fun h => clashU_yes (L := L) (i := i) h
      have EN := hide fun h => clashU_no (L := L) (i := i) h
      have EH : Hid (pB (Heard L i (rSl L i)) = hitB L i m) := by show _ = _; rw [← hitB_all, unhide E3, unhide EM]
      rw [unhide EH] at EY EN
      have hfl := clashU_len L i
      have HR0 := hide hr
      clear hW hr
      go_wp2_with fail
      refine (unhide HOKC _ (unhide HW)).mono ?_
      rintro e w2 ⟨rfl, hb⟩
      replace HW := hide (Below.step (unhide HW) hb)
      have HR1 := hide (ownsRow_below (unhide HR) hb)
      clear hb HR
      have g1 := wcell3 hc1 (unhide HW)
      have g2 := wcell3 hc2 (unhide HW)
      go_wp2
      go_loopg [5, 6] m (fun g hv kv wr2 => (∃ q, wr2 = w2.drewN q) ∧ ∃ k : Nat, k ≤ m ∧ g = m - k ∧ kv = .int .i64 k ∧ hv = .bool (hitB L i k))
      case atStart => exact ⟨⟨0, rfl⟩, 0, Nat.zero_le _, rfl, rfl, by rw [hitB_zero]⟩
      case round =>
        obtain ⟨⟨q, hq⟩, k, hk, rfl, rfl, rfl⟩ := hrel
        have hbd := below_drewN (Below.refl w2.heap.size w2) q
        rw [← hq] at hbd
        have HBD := hide (Below.step (unhide HW) hbd)
        have HRD := hide (ownsRow_below (unhide HR1) hbd)
        have HQ := hide hq
        clear g1 g2 hbd hq
        have g1 := wcell3 hc1 (unhide HBD)
        have g2 := wcell3 hc2 (unhide HBD)
        by_cases hkm : k < m
        · obtain ⟨b', o', rfl, hcell⟩ := intAt (unhide HR0) hkm
          have c0 := wcell3 hcell (unhide HBD)
          have hkm' : (k : Int) < m := by omega
          cases hh : hitB L i k with
          | true =>
            have EHN := hide (hitB_true hh)
            clear hh hcell
            go_wp2
            go_quiet (fail)
            go_wp2
            go_roundg (m - (k + 1))
            case measure => omega
            case rel => exact ⟨⟨_, by rw [unhide HQ]; exact World.drewN_drewN _ _ _⟩, k + 1, by omega, rfl, by go_num, by rw [unhide EHN]⟩
          | false =>
            have EHN := hide (hitB_false hh)
            have hHe : HeAt H i L.length k := by
              have := ((unhide HOK).2.2.1 i hin).2.2
              rw [unhide E3] at this
              exact this k (by rw [unhide EM]; exact hkm)
            obtain ⟨hx0, hx1, -, -⟩ := hHe
            have ES : slK L i k = rSl L (H.getD k 0).toNat := by unfold slK; rw [unhide E3]
            obtain ⟨x, hx⟩ : ∃ x : Nat, H.getD k 0 = (x : Int) := ⟨(H.getD k 0).toNat, by omega⟩
            rw [hx] at c0 hx0 hx1 ES
            rw [Int.toNat_natCast] at ES
            have hxl : x < L.length := by omega
            obtain ⟨b2, o2, na2, nc2, id2, sl2, H2, m2, e2, hd0, hd1, hd2, hr2, EX2, EM2, hm2⟩ := radAt (unhide HC) hxl
            simp only [Option.some.injEq, Addr.mk.injEq, and_true] at e2
            obtain ⟨rfl, rfl⟩ := e2
            have q1 := wcell3 hd1 (unhide HBD)
            rw [ES, show rSl L x = sl2 from by show (L.getD x default).2.1 = sl2; rw [unhide EX2], unhide ESL] at EHN
            clear hh hcell hd0 hd1 hd2 hr2 hx ES
            generalize hbb : (sl2 == sl) = bb at EHN
            go_wp2
            go_quiet (fail)
            go_wp2
            go_roundg (m - (k + 1))
            case measure => omega
            case rel => exact ⟨⟨_, by rw [unhide HQ]; exact World.drewN_drewN _ _ _⟩, k + 1, by omega, rfl, by go_num, by rw [unhide EHN]⟩
        · have hkk : k = m := by omega
          rw [hkk]
          have hsz := (unhide HBD).size
          clear hkk hkm
          generalize hitB L i m = B at *
          cases B with
          | false =>
            have EF := hide (unhide EN rfl)
            clear EN EY
            go_wp2
            go_roundg (L.length - (i + 1))
            case measure => omega
            case rel => exact ⟨i + 1, by omega, rfl, by go_num, unhide HBD, ⟨_, _, _, rfl⟩, by rw [unhide EF]; exact HRD⟩
          | true =>
            have EF := hide (unhide EY rfl)
            clear EN EY
            have HR2 := hide (ownsRow_below (unhide HRD) (Below.alloc1 wr (.cells #[.int .i64 i] 3)))
            go_wp2_with (at_builtin; refine wpList_append_lies _ rfl _ _ 34 rfl w.heap.size 3 i0 _ 1 8 Try.underlying34 hinf hz0 hz1 hz2 rfl (by decide) _ (clashU L i).length _ rfl (unhide HR2) ⟨wr.heap.size, 0, none⟩ 1 1 [.int .i64 i] rfl rfl (cell_one_new _ _ _) (by simp [Value.oneCell']) (by omega) (by unfold maxLen; omega) (by omega) (by simp; omega) _ rfl ?_; intro g4 cap4 wa hown hgrow hat hlt4; have HWa := hide ((Below.step (unhide HBD) (Below.alloc1 wr (.cells #[.int .i64 i] 3))).grown hgrow (by simp; omega) (fun g hg => ((unhide HRD).lt g hg).1)); have HOW := hide hown; clear hown hgrow hat)
            go_roundg (L.length - (i + 1))
            case measure => omega
            case rel => exact ⟨i + 1, by omega, rfl, by go_num, unhide HWa, ⟨_, _, _, rfl⟩, by rw [unhide EF, List.length_append]; exact hide (by have := unhide HOW; simpa [ints] using this)⟩
    · have hss : i = L.length := by omega
      subst hss
      have HW := hide hW
      clear hW
      go_wp2
      go_ret
      obtain ⟨a', n', cp', e', hsl⟩ := own_told1 (unhide HR) rfl
      simp only [Value.slice.injEq] at e'
      obtain ⟨rfl, rfl, rfl⟩ := e'
      exact ⟨_, _, _, rfl, by rw [unhide EC]; exact hsl, unhide HW⟩

end Go.Proofs.Ytkjikjeecjendaa

/- A list of rows that grows by append, a block a row: what is owned, and how it goes on. No statement about the program stands here. -/
namespace Go.Proofs.Ytkjikjeecjendaa
open Go.RowKit

theorem ownsRow_kept {T : Nat → Prop} {w w' : World} {base n size : Nat} {e : TypeId} {v : Value} {xs : List Value} (h : w.ownsRow base e size v n xs) (hk : Kept T w w') (hT : ∀ g, base ≤ g → g < w.heap.size → v.ownBlock = some g → ¬ T g) : w'.ownsRow base e size v n xs := by
  obtain ⟨h1, h2⟩ := h
  refine ⟨h1, ?_⟩
  rcases h2 with h2 | ⟨g, cap, cur, hv, hg, hh, r⟩
  · exact Or.inl h2
  · obtain ⟨hlt, _⟩ := Array.getElem?_eq_some_iff.1 hh
    exact Or.inr ⟨g, cap, cur, hv, hg, (hk.block g hlt (hT g hg hlt (by rw [hv]; rfl))).trans hh, r⟩

theorem Kept.grown {T : Nat → Prop} {a w w' : World} {row : Option Nat} (h : Kept T a w) (hg : w.grownBy w' row) (hr : ∀ k, row = some k → T k) : Kept T a w' :=
  h.trans ⟨hg.os, hg.tape, hg.output, hg.size, fun k hk ht => hg.block k hk (fun e => ht (hr k e.symm))⟩

theorem Kept.alloc {T : Nat → Prop} {a w : World} (h : Kept T a w) (o : Obj) : Kept T a (w.alloc o) := h.trans (kept_of_below (Below.alloc1 w o))

/-- The slice value ov owns one cell a row of R; row r lies at the head of a block of its own. -/
def Grow (t : TypeId) (base : Nat) (w : World) (ov : Value) (R : List (List Int)) : Prop :=
  ∃ vals, w.ownsRow base t 1 ov R.length vals ∧ ∀ r, r < R.length → ∃ g cap, vals[r]? = some (.slice (some ⟨g, 0, none⟩) (R.getD r []).length cap) ∧ (R.getD r []).length ≤ cap ∧ cap ≤ maxLen ∧ OwnV w g (ints (R.getD r [])) ∧ base ≤ g ∧ ov.ownBlock ≠ some g

theorem Grow.start (t : TypeId) (base : Nat) (w : World) : Grow t base w (.slice none 0 0) [] := ⟨[], World.ownsRow_nil _ _ _ _, fun r hr => by simp at hr⟩

theorem Grow.kept {T : Nat → Prop} {t : TypeId} {base : Nat} {w w' : World} {ov : Value} {R : List (List Int)} (h : Grow t base w ov R) (hk : Kept T w w') (hT : ∀ g, base ≤ g → g < w.heap.size → ¬ T g) : Grow t base w' ov R := by
  obtain ⟨vals, ho, hr⟩ := h
  refine ⟨vals, ownsRow_kept ho hk (fun g hg hl _ => hT g hg hl), fun r hlt => ?_⟩
  obtain ⟨g, cap, h1, h2, h3, h4, h5, h6⟩ := hr r hlt
  exact ⟨g, cap, h1, h2, h3, h4.kept hk (hT g h5 h4.lt), h5, h6⟩

theorem Grow.below {t : TypeId} {base : Nat} {w w' : World} {ov : Value} {R : List (List Int)} (h : Grow t base w ov R) (hb : Below w.heap.size w w') : Grow t base w' ov R :=
  h.kept (T := fun _ => False) (kept_of_below hb) (fun _ _ _ h => h)

theorem Grow.mono {t : TypeId} {base base' : Nat} {w : World} {ov : Value} {R : List (List Int)} (h : Grow t base w ov R) (hb : base' ≤ base) : Grow t base' w ov R := by
  obtain ⟨vals, ho, hr⟩ := h
  refine ⟨vals, ⟨ho.1, ho.2.elim Or.inl (fun ⟨g, cap, cur, hv, hg, r⟩ => Or.inr ⟨g, cap, cur, hv, Nat.le_trans hb hg, r⟩)⟩, fun r hlt => ?_⟩
  obtain ⟨g, cap, h1, h2, h3, h4, h5, h6⟩ := hr r hlt
  exact ⟨g, cap, h1, h2, h3, h4, Nat.le_trans hb h5, h6⟩

/-- Where there is a row the list lies at the head of a block of its own. -/
theorem Grow.form {t : TypeId} {base : Nat} {w : World} {ov : Value} {R : List (List Int)} (h : Grow t base w ov R) (hn : 0 < R.length) : ∃ g cap, ov = .slice (some ⟨g, 0, none⟩) R.length cap ∧ base ≤ g ∧ R.length ≤ cap ∧ cap ≤ maxLen := by
  obtain ⟨vals, ⟨_, h2⟩, _⟩ := h
  rcases h2 with ⟨_, h0⟩ | ⟨g, cap, cur, hv, hg, hh, hc, hm, _⟩
  · omega
  · exact ⟨g, cap, hv, hg, hc, hm⟩

theorem getD_snoc {α : Type} (R : List α) (x d : α) (r : Nat) : (R ++ [x]).getD r d = if r < R.length then R.getD r d else if r = R.length then x else d := by
  by_cases h : r < R.length
  · rw [if_pos h]; simp [List.getD, List.getElem?_append_left h]
  · rw [if_neg h]
    by_cases e : r = R.length
    · subst e; simp [List.getD]
    · rw [if_neg e, List.getD, List.getElem?_eq_none (by simp; omega)]; rfl

/-- One row more, behind the law of append. -/
theorem Grow.push {t : TypeId} {base : Nat} {w w1 w2 : World} {ov : Value} {R : List (List Int)} {row : List Int} {g cap g' cap' H : Nat} {vals : List Value}
    (hr : ∀ r, r < R.length → ∃ g cap, vals[r]? = some (.slice (some ⟨g, 0, none⟩) (R.getD r []).length cap) ∧ (R.getD r []).length ≤ cap ∧ cap ≤ maxLen ∧ OwnV w g (ints (R.getD r [])) ∧ base ≤ g ∧ ov.ownBlock ≠ some g)
    (hvl : vals.length = R.length) (hb : Below w.heap.size w w1) (ho : OwnV w g (ints row)) (hg : base ≤ g) (hne : ov.ownBlock ≠ some g) (hc1 : row.length ≤ cap) (hc2 : cap ≤ maxLen) (hH : w.heap.size ≤ H)
    (hown : w2.ownsRow base t 1 (.slice (some ⟨g', 0, none⟩) (R.length + 1) cap') (R.length + 1) (vals ++ [.slice (some ⟨g, 0, none⟩) row.length cap])) (hgrow : w1.grownBy w2 ov.ownBlock) (hat : ov.ownBlock = some g' ∨ g' = H) :
    Grow t base w2 (.slice (some ⟨g', 0, none⟩) (R.length + 1) cap') (R ++ [row]) := by
  refine ⟨vals ++ [.slice (some ⟨g, 0, none⟩) row.length cap], by rw [List.length_append]; exact hown, fun r hlt => ?_⟩
  rw [List.length_append] at hlt
  simp only [List.length_cons, List.length_nil, Nat.zero_add] at hlt
  have far : ∀ x, x < w.heap.size → ov.ownBlock ≠ some x → (Value.slice (some ⟨g', 0, none⟩) (R.length + 1) cap').ownBlock ≠ some x ∧ w2.heap[x]? = w.heap[x]? := fun x hx hnx => by
    constructor
    · intro e
      have e' : g' = x := by simpa [Value.ownBlock] using e
      subst e'
      rcases hat with h | h
      · exact hnx h
      · omega
    · rw [hgrow.block x (Nat.lt_of_lt_of_le hx hb.size) (fun e => hnx e.symm), hb.block x hx]
  rw [getD_snoc]
  by_cases h : r < R.length
  · rw [if_pos h]
    obtain ⟨g1, cap1, h1, h2, h3, h4, h5, h6⟩ := hr r h
    obtain ⟨f1, f2⟩ := far g1 h4.lt h6
    exact ⟨g1, cap1, by rw [List.getElem?_append_left (by omega)]; exact h1, h2, h3, h4.of_block f2, h5, f1⟩
  · rw [if_neg h, if_pos (by omega)]
    obtain ⟨f1, f2⟩ := far g ho.lt hne
    exact ⟨g, cap, by rw [List.getElem?_append_right (by omega)]; simp [show r - vals.length = 0 by omega], hc1, hc2, ho.of_block f2, hg, f1⟩

theorem Grow.rowsIn {t : TypeId} {base : Nat} {w : World} {ov : Value} {R : List (List Int)} (h : Grow t base w ov R) : RowsIn w ov R := by
  obtain ⟨vals, ⟨h1, h2⟩, hr⟩ := h
  rcases h2 with ⟨rfl, h0⟩ | ⟨g, cap, cur, rfl, hg, hh, hc, hm, hs, ht⟩
  · have : R = [] := List.length_eq_zero_iff.1 h0
    subst this
    exact ⟨none, 0, rfl, Nat.le_refl _, Nat.zero_le _, fun r hr => by simp at hr⟩
  · refine ⟨_, cap, rfl, hc, hm, fun r hlt => ?_⟩
    obtain ⟨g1, cap1, e1, e2, e3, e4, _, _⟩ := hr r hlt
    refine ⟨g, 0, _, rfl, ?_, e4.intsIn e2 e3⟩
    rw [Nat.zero_add]
    have : cur[r]? = some (.slice (some ⟨g1, 0, none⟩) (R.getD r []).length cap1) := by
      rw [← ht] at e1
      rw [List.getElem?_take, if_pos (by omega)] at e1
      simpa using e1
    simp [World.cell?, hh, this]

end Go.Proofs.Ytkjikjeecjendaa

/- Radios: lists that grow by append; a contract of the specification's l9Copy. -/
namespace Go.Proofs.Ytkjikjeecjendaa
open Go.RowKit

/-- An append of no element. -/
theorem run_append_zero {P : Program} (w : World) (t ty e : TypeId) (i : TypeInfo) (ht : P.underlying t = some (.slice e)) (hi : P.info? e = some i) (a : Addr) (n cap cap' : Nat) (ao : Option Addr) (hc : n ≤ cap) :
    (Builtin.append_ #[t, t] ty #[.slice (some a) n cap, .slice ao 0 cap']).run P w = .ok (.slice (some a) n cap) w := by
  cases ao with
  | none => simp [Builtin.append_, run_underlying ht, sizeOf, typeInfo, hi, Builtin.lenOf, Builtin.firstCells, hc, storeCells]
  | some b => simp [Builtin.append_, run_underlying ht, sizeOf, typeInfo, hi, Builtin.lenOf, Builtin.firstCells, hc, storeCells, loadCells, loadCellsFrom]

/-- An append of any number of elements to a new, empty row of the call's own: a row of the call's own. -/
theorem wpList_append_whole {P : Program} {ops : Array Oper} {rest : List Oper} {o : Oper} {a : Act} {Q : Exit → Act → World → Prop} {w : World} (hgd : o.guard = none) (s x : Operand) (t : TypeId)
    (ho : o.op = .call { callee := .builtin .append, args := #[s, x], argTypes := #[t, t] })
    (base : Nat) (e : TypeId) (i : TypeInfo) (z : Value) (size bytes : Nat) (ht : P.underlying t = some (.slice e)) (hi : P.info? e = some i) (hz : i.zero = some z)
    (hsize : i.size = size) (hby : i.bytes = bytes) (hzs : z.cells.size = size) (hsz : 0 < size)
    (g : Nat) (hs : a.eval s = .slice (some ⟨g, 0, none⟩) 0 0) (hown : w.ownsRow base e size (.slice (some ⟨g, 0, none⟩) 0 0) 0 [])
    (ao : Option Addr) (m c : Nat) (news : List Value) (hx : a.eval x = .slice ao m c) (hl : news.length = m * size) (hnews : m ≠ 0 → ∃ ad, ao = some ad ∧ ∀ j u, news[j]? = some u → w.cell? (ad.add j) = some u) (h1 : ∀ u ∈ news, u.oneCell' = true)
    (h63 : m ≤ maxLen) (hbytes : m * bytes ≤ 140737488355328) (hbase : base ≤ w.heap.size)
    (h : ∀ g' cap w', w'.ownsRow base e size (.slice (some ⟨g', 0, none⟩) m cap) m news → w.grownBy w' (some g) → (g' = g ∨ g' = w.heap.size) → wpList P ops Q rest (a.put o.dst (.slice (some ⟨g', 0, none⟩) m cap)) w') : wpList P ops Q (o :: rest) a w := by
  by_cases hm : m = 0
  · subst hm
    have hn : news = [] := List.length_eq_zero_iff.1 (by omega)
    subst hn
    refine wpList_plain hgd fun K hK => ?_
    have hrun := run_append_zero (P := P) w t o.type e i ht hi ⟨g, 0, none⟩ 0 0 c ao (Nat.le_refl _)
    unfold Oper.wp
    simp [execOp, ho, resolve, invoke, builtin, hs, hx, hrun, Result.andThen]
    exact hK _ _ (h g 0 w hown ⟨rfl, rfl, rfl, Nat.le_refl _, fun _ _ _ => rfl⟩ (Or.inl rfl))
  · obtain ⟨ad, rfl, hn⟩ := hnews hm
    refine wpList_append_lies w hgd s x t ho base e i z size bytes ht hi hz hsize hby hzs hsz _ 0 [] hs hown ad m c news hx hl hn h1 (by omega) (by omega) (by rw [Nat.zero_add]; exact hbytes) hbase _ rfl ?_
    intro g' cap w' ho' hg hat _
    rw [Nat.zero_add, List.nil_append] at ho'
    rw [Nat.zero_add]
    refine h g' cap w' ho' hg ?_
    rcases hat with e | e
    · exact Or.inl (by simpa [Value.ownBlock] using e.symm)
    · exact Or.inr e

theorem IntsIn.of_block {w w2 : World} {g n c : Nat} {H : List Int} (h : IntsIn w (.slice (some ⟨g, 0, none⟩) n c) H) (e : w2.heap[g]? = w.heap[g]?) : IntsIn w2 (.slice (some ⟨g, 0, none⟩) n c) H := by
  obtain ⟨ao, cap, e1, h1, h2, h3⟩ := h
  refine ⟨ao, cap, e1, h1, h2, fun i hi => ?_⟩
  obtain ⟨b, o, e2, hc⟩ := h3 i hi
  simp only [Value.slice.injEq] at e1
  obtain ⟨rfl, rfl, rfl⟩ := e1
  simp only [Option.some.injEq, Addr.mk.injEq, and_true] at e2
  obtain ⟨rfl, rfl⟩ := e2
  exact ⟨g, 0, rfl, (World.cell?_of_block (w := w) (a := ⟨g, 0 + i, none⟩) e).trans hc⟩

/-- The slice value ov owns the radios' cells; the places of each lie in a block beside it. -/
def GrowR (base : Nat) (w : World) (ov : Value) (L : List Rad) : Prop :=
  ∃ vals, w.ownsRow base 45 3 ov L.length vals ∧ vals.length = L.length * 3 ∧ ∀ r, r < L.length → vals[r * 3]? = some (.int .i64 (L.getD r default).1) ∧ vals[r * 3 + 1]? = some (.int .i64 (L.getD r default).2.1) ∧
    ∃ g cap, vals[r * 3 + 2]? = some (.slice (some ⟨g, 0, none⟩) (L.getD r default).2.2.length cap) ∧ IntsIn w (.slice (some ⟨g, 0, none⟩) (L.getD r default).2.2.length cap) (L.getD r default).2.2 ∧ base ≤ g ∧ g < w.heap.size ∧ ov.ownBlock ≠ some g
theorem GrowR.below {base : Nat} {w w' : World} {ov : Value} {L : List Rad} (h : GrowR base w ov L) (hb : Below w.heap.size w w') : GrowR base w' ov L := by
  obtain ⟨vals, ho, hl, hr⟩ := h
  refine ⟨vals, ownsRow_below ho hb, hl, fun r hlt => ?_⟩
  obtain ⟨h0, h1, g, cap, h2, h3, h4, h5, h6⟩ := hr r hlt
  exact ⟨h0, h1, g, cap, h2, h3.below hb, h4, Nat.lt_of_lt_of_le h5 hb.size, h6⟩
theorem GrowR.inn {base : Nat} {w : World} {ov : Value} {L : List Rad} (h : GrowR base w ov L) : RadsIn w ov L := by
  obtain ⟨vals, ⟨h1, h2⟩, hl, hr⟩ := h
  rcases h2 with ⟨rfl, h0⟩ | ⟨g, cap, cur, rfl, hg, hh, hc, hm, hs, ht⟩
  · have : L = [] := List.length_eq_zero_iff.1 h0
    subst this
    exact radsIn_nil
  · refine ⟨_, cap, rfl, hc, hm, fun r hlt => ?_⟩
    obtain ⟨e0, e1, gr, capr, e2, e3, -, -, -⟩ := hr r hlt
    have cell : ∀ j u, j < L.length * 3 → vals[j]? = some u → w.cell? ⟨g, 0 + j, none⟩ = some u := fun j u hj hu => by
      rw [← ht, List.getElem?_take, if_pos (by omega)] at hu
      rw [Nat.zero_add]
      simp only [Array.getElem?_toList] at hu
      simp [World.cell?, hh, hu]
    exact ⟨g, 0, _, _, rfl, cell _ _ (by omega) e0, by rw [Nat.add_assoc]; exact cell _ _ (by omega) e1, by rw [Nat.add_assoc]; exact cell _ _ (by omega) e2, e3⟩
theorem GrowR.push {base : Nat} {w w1 w2 : World} {ov : Value} {L : List Rad} {id sl : Int} {H : List Int} {g cap g' cap' Hs : Nat} {vals : List Value}
    (hvl : vals.length = L.length * 3) (hr : ∀ r, r < L.length → vals[r * 3]? = some (.int .i64 (L.getD r default).1) ∧ vals[r * 3 + 1]? = some (.int .i64 (L.getD r default).2.1) ∧
    ∃ g cap, vals[r * 3 + 2]? = some (.slice (some ⟨g, 0, none⟩) (L.getD r default).2.2.length cap) ∧ IntsIn w (.slice (some ⟨g, 0, none⟩) (L.getD r default).2.2.length cap) (L.getD r default).2.2 ∧ base ≤ g ∧ g < w.heap.size ∧ ov.ownBlock ≠ some g)
    (hb : Below w.heap.size w w1) (hI : IntsIn w (.slice (some ⟨g, 0, none⟩) H.length cap) H) (hg : base ≤ g) (hgl : g < w.heap.size) (hne : ov.ownBlock ≠ some g) (hH : w.heap.size ≤ Hs)
    (hown : w2.ownsRow base 45 3 (.slice (some ⟨g', 0, none⟩) (L.length + 1) cap') (L.length + 1) (vals ++ [.int .i64 id, .int .i64 sl, .slice (some ⟨g, 0, none⟩) H.length cap])) (hgrow : w1.grownBy w2 ov.ownBlock) (hat : ov.ownBlock = some g' ∨ g' = Hs) :
    GrowR base w2 (.slice (some ⟨g', 0, none⟩) (L.length + 1) cap') (L ++ [(id, sl, H)]) := by
  have far : ∀ x, x < w.heap.size → ov.ownBlock ≠ some x → (Value.slice (some ⟨g', 0, none⟩) (L.length + 1) cap').ownBlock ≠ some x ∧ w2.heap[x]? = w.heap[x]? ∧ x < w2.heap.size := fun x hx hnx => by
    refine ⟨fun e => ?_, ?_, Nat.lt_of_lt_of_le hx (Nat.le_trans hb.size hgrow.size)⟩
    · have e' : g' = x := by simpa [Value.ownBlock] using e
      subst e'
      rcases hat with h | h
      · exact hnx h
      · omega
    · rw [hgrow.block x (Nat.lt_of_lt_of_le hx hb.size) (fun e => hnx e.symm), hb.block x hx]
  refine ⟨_, by rw [List.length_append]; exact hown, by simp [hvl]; omega, fun r hlt => ?_⟩
  rw [List.length_append] at hlt
  simp only [List.length_cons, List.length_nil, Nat.zero_add] at hlt
  rw [getD_snoc]
  by_cases h : r < L.length
  · rw [if_pos h]
    obtain ⟨h0, h1, g1, cap1, h2, h3, h4, h5, h6⟩ := hr r h
    obtain ⟨f1, f2, f3⟩ := far g1 h5 h6
    exact ⟨by rw [List.getElem?_append_left (by omega)]; exact h0, by rw [List.getElem?_append_left (by omega)]; exact h1, g1, cap1, by rw [List.getElem?_append_left (by omega)]; exact h2, h3.of_block f2, h4, f3, f1⟩
  · rw [if_neg h, if_pos (by omega)]
    have er : r = L.length := by omega
    obtain ⟨f1, f2, f3⟩ := far g hgl hne
    refine ⟨by rw [List.getElem?_append_right (by omega)]; simp [show r * 3 - vals.length = 0 by omega], by rw [List.getElem?_append_right (by omega)]; simp [show r * 3 + 1 - vals.length = 1 by omega], g, cap, by rw [List.getElem?_append_right (by omega)]; simp [show r * 3 + 2 - vals.length = 2 by omega], hI.of_block f2, hg, f3, f1⟩
theorem rec3_one (a b : Int) (x : Option Addr) (n c : Nat) : ∀ u ∈ ([.int .i64 a, .int .i64 b, .slice x n c] : List Value), u.oneCell' = true := by simp [Value.oneCell']
theorem rec3_cell (w : World) (a b : Int) (x : Option Addr) (n c : Nat) (t : TypeId) : ∀ j u, ([.int .i64 a, .int .i64 b, .slice x n c] : List Value)[j]? = some u → (w.alloc (.cells #[.int .i64 a, .int .i64 b, .slice x n c] t)).cell? ((⟨w.heap.size, 0, none⟩ : Addr).add j) = some u := by
  intro j u hj
  match j, hj with
  | 0, hj => simp at hj; simp [Addr.add, hj]
  | 1, hj => simp at hj; simp [Addr.add, hj]
  | 2, hj => simp at hj; simp [Addr.add, hj]
  | j + 3, hj => simp at hj

set_option maxRecDepth 10000 in
set_option maxHeartbeats 3200000 in
theorem l9Copy_any (v : Value) (L : List Rad) (w : World) (h : RadsIn w v L) (hs : L.length ≤ 1048576) (hl : ∀ i, i < L.length → (L.getD i default).2.2.length ≤ 1048576) :
    Calls Try.prog 77 #[v] w fun e w' => ∃ a n cp, e = .returned (.slice a n cp) ∧ GrowR w.heap.size w' (.slice a n cp) L ∧ Below w.heap.size w w' := by
  obtain ⟨i0, hinf, hzz⟩ := Option.map_eq_some_iff.1 Try.infoIntCp
  simp only [Prod.mk.injEq] at hzz
  obtain ⟨hz0, hz1, hz2⟩ := hzz
  obtain ⟨i1, hinf', hyy⟩ := Option.map_eq_some_iff.1 Try.infoRadio
  simp only [Prod.mk.injEq] at hyy
  obtain ⟨hy0, hy1, hy2⟩ := hyy
  obtain ⟨ao, cap, rfl, hlc, hm, hc⟩ := h
  unfold maxLen at hm
  have HC := hide hc
  have HL := hide hl
  clear hc hl
  have HM0 := hide (World.ownsRow_made (base := w.heap.size) (e := 45) (size := 3) w #[] 0 (Nat.le_refl _) (Nat.zero_le _) (by simp))
  have HB0 := hide (Below.alloc1 w (.cells #[] 45))
  go_enter Try.func77, Try.ntmps77
  go_wp2
  go_loopg [3, 4] L.length (fun gg ov iv wr => ∃ i : Nat, i ≤ L.length ∧ gg = L.length - i ∧ iv = .int .i64 i ∧ Below w.heap.size w wr ∧ (∃ a n cp, ov = .slice a n cp) ∧ Hid (GrowR w.heap.size wr ov (L.take i)))
  case atStart => exact ⟨0, Nat.zero_le _, rfl, rfl, unhide HB0, ⟨_, _, _, rfl⟩, ⟨[], unhide HM0, rfl, fun r hr => by simp at hr⟩⟩
  case round =>
    obtain ⟨i, hi, rfl, rfl, hW, ⟨a, n, cp, rfl⟩, HR⟩ := hrel
    clear HB0 HM0
    by_cases hin : i < L.length
    · have hil := unhide HL i hin
      obtain ⟨b, o, na, nc, id, sl, H, m, rfl, hc0, hc1, hc2, hr, EX, EM, hm0⟩ := radAt (unhide HC) hin
      rw [unhide EX] at hil
      have hmH : m ≤ 1048576 := by rw [← unhide EM]; exact hil
      have g0 := wcell3 hc0 hW
      have g1 := wcell3 hc1 hW
      have g2 := wcell3 hc2 hW
      have hii : (i : Int) < L.length := by omega
      have ETK : Hid (L.take (i + 1) = L.take i ++ [(id, sl, H)]) := by show _ = _; rw [List.take_add_one, List.getElem?_eq_getElem hin, ← getD_lt (d := default) hin, unhide EX]; rfl
      have hTl : (L.take i).length = i := by rw [List.length_take]; omega
      have hOX := ownV_alloc wr #[.int .i64 id, .int .i64 sl, .slice na m nc] 45
      have hA := Below.alloc1 wr (.cells #[.int .i64 id, .int .i64 sl, .slice na m nc] 45)
      obtain ⟨V, hV⟩ : ∃ V, wr.alloc (.cells #[.int .i64 id, .int .i64 sl, .slice na m nc] 45) = V := ⟨_, rfl⟩
      rw [hV] at hOX hA
      have hVs : wr.heap.size < V.heap.size := hOX.lt
      obtain ⟨W3, hW3⟩ : ∃ W, V.alloc (.cells #[] 3) = W := ⟨_, rfl⟩
      have hB3 := Below.alloc1 V (.cells #[] 3)
      have HM3 := hide (World.ownsRow_made (base := V.heap.size) (e := 3) (size := 1) V #[] 0 (Nat.le_refl _) (Nat.zero_le _) (by simp))
      rw [hW3] at hB3 HM3
      have hW3s : V.heap.size < W3.heap.size := by rw [← hW3]; simp
      have c2 := (hOX.step hB3).cell (i := 2) rfl
      have HSR := hide (ints_src ((hr.below hW).below (Below.step hA hB3)))
      have HOX := hide hOX
      have HA := hide hA
      have HB3 := hide hB3
      have HW := hide hW
      have hsz := hW.size
      clear hc0 hc1 hc2 hr hW hOX hA hB3
      go_upto_region 7 with (at_builtin; first
        | (refine wpList_append_whole rfl _ _ 34 rfl V.heap.size 3 i0 _ 1 8 Try.underlying34 hinf hz0 hz1 hz2 rfl (by decide) V.heap.size rfl (unhide HM3) na m nc (ints H) rfl (by rw [ints_length, unhide EM, Nat.mul_one]) (fun h => unhide HSR (by omega)) (fun u hu => by obtain ⟨x, _, rfl⟩ := List.mem_map.1 hu; rfl) (by unfold maxLen; omega) (by omega) (by omega) ?_
           intro g1 cap1 wa hown hgrow hat
           have hBa : Below V.heap.size V wa := (unhide HB3).grown hgrow (by omega) (fun g hg => by simp at hg; omega)
           have hOa := (unhide HOX).step hBa
           have e0 := hOa.cell (i := 0) rfl
           have e1 := hOa.cell (i := 1) rfl
           have e2 := hOa.cell (i := 2) rfl
           have ef := hOa.frozen 2
           have hI1 : IntsIn wa (.slice (some ⟨g1, 0, none⟩) m cap1) H := by
             obtain ⟨a', n', c', e', hsl⟩ := own_told1 hown rfl
             rw [e']
             exact hsl.intsIn
           have hg1 : V.heap.size ≤ g1 := by rcases hat with e | e <;> omega
           have hg1l : g1 < wa.heap.size := (hown.lt g1 rfl).2
           obtain ⟨wb, hwb⟩ : ∃ z, wa.setCell ⟨wr.heap.size, 2, none⟩ (.slice (some ⟨g1, 0, none⟩) m cap1) = z := ⟨_, rfl⟩
           have hOb := hOa.set 2 (.slice (some ⟨g1, 0, none⟩) m cap1) (by simp)
           rw [hwb] at hOb
           have k0 := hOb.cell (i := 0) rfl
           have k1 := hOb.cell (i := 1) rfl
           have k2 := hOb.cell (i := 2) rfl
           have hIb := hI1.of_block (w2 := wb) (by rw [← hwb]; exact Below.heap_setCell _ _ _ _ (by simp only; omega))
           have hwbs : wb.heap.size = wa.heap.size := by rw [← hwb]; simp [World.setCell]
           have hBW : Below wr.heap.size wr wb := by
             rw [← hwb]
             exact ((unhide HA).trans (hBa.mono (by omega))).setCell (p := ⟨wr.heap.size, 2, none⟩) (Nat.le_refl _) _
           obtain ⟨vals, hvo, hvl, hvr⟩ := (unhide HR).below hBW
           have hvo2 := ownsRow_below hvo (Below.alloc1 wb (.cells #[.int .i64 id, .int .i64 sl, .slice (some ⟨g1, 0, none⟩) m cap1] 45))
           rw [hTl] at hvo2
           have HVO2 := hide hvo2
           have hlow : ∀ k, (Value.slice a n cp).ownBlock = some k → w.heap.size ≤ k ∧ k < wr.heap.size := fun k hk => by
             obtain ⟨vs0, hv0, -, -⟩ := unhide HR
             exact hv0.lt k hk
           have HLOW := hide hlow
           have HIB := hide hIb
           have HVL := hide hvl
           have HVR := hide hvr
           have HBW := hide hBW
           have hg1b : g1 < wb.heap.size := by omega
           have hwrb : wr.heap.size ≤ wb.heap.size := hBW.size
           clear hwbs hg1l hown hgrow hat hBa hOa hOb hI1 hIb hvo hvo2 hvl hvr hlow hBW HM3 HSR HOX HA HB3 HR))
      go_wp2_with (at_builtin; first
        | (refine wpList_append_lies _ rfl _ _ 33 rfl w.heap.size 45 i1 _ 3 40 Try.underlying33 hinf' hy0 hy1 hy2 rfl (by decide) _ i vals rfl (unhide HVO2) ⟨wb.heap.size, 0, none⟩ 1 1 [.int .i64 id, .int .i64 sl, .slice (some ⟨g1, 0, none⟩) m cap1] rfl rfl (rec3_cell _ _ _ _ _ _ _) (rec3_one _ _ _ _ _) (by omega) (by unfold maxLen; omega) (by omega) (by simp; omega) _ rfl ?_
           intro g4 cap4 w2 hown hgrow hat hlt4
           have HW2 := hide ((Below.trans (unhide HW) (Below.mono (Below.step (unhide HBW) (Below.alloc1 wb (.cells #[.int .i64 id, .int .i64 sl, .slice (some ⟨g1, 0, none⟩) m cap1] 45))) hsz)).grown hgrow (by simp; omega) (fun g hg => (unhide HLOW g hg).1))
           have HOW := hide hown
           have HGR := hide hgrow
           have HAT := hide hat
           clear hown hgrow hat))
      have em := unhide EM
      subst em
      have HP : Hid (GrowR w.heap.size w2 (.slice (some ⟨g4, 0, none⟩) (i + 1) cap4) (L.take (i + 1))) := by
        show GrowR _ _ _ _
        rw [unhide ETK]
        have := GrowR.push (L := L.take i) (unhide HVL) (unhide HVR) (Below.alloc1 wb _) (unhide HIB) (by omega) hg1b (fun e => by have := (unhide HLOW g1 e).2; omega) (by simp) (by rw [hTl]; exact unhide HOW) (unhide HGR) (unhide HAT)
        rw [hTl] at this
        exact this
      go_roundg (L.length - (i + 1))
      case measure => omega
      case rel => exact ⟨i + 1, by omega, rfl, by go_num, unhide HW2, ⟨_, _, _, rfl⟩, HP⟩
    · have hii : i = L.length := by omega
      rw [hii, List.take_length] at HR
      have HW := hide hW
      clear hW
      go_wp2
      go_ret
      exact ⟨_, _, _, rfl, unhide HR, unhide HW⟩

end Go.Proofs.Ytkjikjeecjendaa

/- Frames: the specification's PackReport. Written by wip/mkfm3.py. -/
namespace Go.Proofs.Ytkjikjeecjendaa
open Go.RowKit

theorem ownsRow_lit (w : World) (c : Array Value) (e : TypeId) (n : Nat) (hn : c.size = n) (hm : n ≤ maxLen) : (w.alloc (.cells c e)).ownsRow w.heap.size e 1 (.slice (some ⟨w.heap.size, 0, none⟩) n n) n c.toList := by
  subst hn
  exact ⟨by simp, Or.inr ⟨w.heap.size, c.size, c, rfl, Nat.le_refl _, Go.Deep.blk_alloc_new _ _, Nat.le_refl _, hm, by simp, by rw [Nat.mul_one, ← Array.length_toList, List.take_length]⟩⟩
def pack14 (k i x y s n : Int) : List Byte := [toB k, toB (i / 16777216), toB (i / 65536), toB (i / 256), toB i, toB (x / 65536), toB (x / 256), toB x, toB (y / 65536), toB (y / 256), toB y, toB s, toB n, 0]
theorem packed14 (k i x y s n : Int) : packed k i x y s n = pack14 k i x y s n ++ [toB ((crcL (pack14 k i x y s n) : Nat) / 256 : Int), toB (crcL (pack14 k i x y s n) : Nat)] := rfl
theorem toB_lo (x d : Int) (h : d = 1 ∨ d = 256 ∨ d = 65536) : eB (toB (x / d)) = .int .u8 ((x % 16777216 / d) % 256) := by
  rw [eB_toB]
  congr 1
  rcases h with rfl | rfl | rfl <;> omega
theorem bb_one (a b : Int) : ∀ u ∈ ([.int .u8 a, .int .u8 b] : List Value), u.oneCell' = true := by simp [Value.oneCell']
theorem bb_cell (w : World) (a b : Int) (t : TypeId) : ∀ j u, ([.int .u8 a, .int .u8 b] : List Value)[j]? = some u → (w.alloc (.cells #[.int .u8 a, .int .u8 b] t)).cell? ((⟨w.heap.size, 0, none⟩ : Addr).add j) = some u := by
  intro j u hj
  match j, hj with
  | 0, hj => simp at hj; simp [Addr.add, hj]
  | 1, hj => simp at hj; simp [Addr.add, hj]
  | j + 2, hj => simp at hj

set_option maxRecDepth 10000 in
set_option maxHeartbeats 1600000 in
theorem specPackReport_any (k i x y s n : Int) (w : World) :
    Calls Try.prog 29 #[vReport k i x y s n] w fun e w' => ∃ a m cp, e = .returned (.tuple #[.slice a m cp, .bool (repB k i x y s n)]) ∧ OwnBy w.heap.size w' (.slice a m cp) (packF k i x y s n) ∧ Below w.heap.size w w' := by
  have HB := hide (Below.alloc1 w (.cells #[.int .i64 k, .int .i64 i, .int .i64 x, .int .i64 y, .int .i64 s, .int .i64 n] 25))
  have HO := hide (ownV_alloc w #[.int .i64 k, .int .i64 i, .int .i64 x, .int .i64 y, .int .i64 s, .int .i64 n] 25)
  have HS := hide fun W => specReportOk_any k i x y s n W
  have HN : Hid (packF k i x y s n = if repB k i x y s n then packed k i x y s n else []) := rfl
  have HPK := hide (packed14 k i x y s n)
  have HPL := hide (packed_len k i x y s n)
  have HF : Hid ((pack14 k i x y s n).map eB = [.int .u8 ((k) % 256), .int .u8 ((i / 16777216) % 256), .int .u8 ((i / 65536) % 256), .int .u8 ((i / 256) % 256), .int .u8 ((i) % 256), .int .u8 (((x % 16777216) / 65536) % 256), .int .u8 (((x % 16777216) / 256) % 256), .int .u8 (((x % 16777216)) % 256), .int .u8 (((y % 16777216) / 65536) % 256), .int .u8 (((y % 16777216) / 256) % 256), .int .u8 (((y % 16777216)) % 256), .int .u8 ((s) % 256), .int .u8 ((n) % 256), .int .u8 0]) := by
    show _ = _
    unfold pack14
    simp only [List.map_cons, List.map_nil]
    have hx := toB_lo x 1 (by omega)
    have hy := toB_lo y 1 (by omega)
    rw [Int.ediv_one, Int.ediv_one] at hx hy
    rw [hx, hy, toB_lo x 256 (by omega), toB_lo x 65536 (by omega), toB_lo y 256 (by omega), toB_lo y 65536 (by omega), eB_toB, eB_toB, eB_toB, eB_toB, eB_toB, eB_toB, eB_toB]
    rfl
  have hF14 : (pack14 k i x y s n).length = 14 := rfl
  generalize packF k i x y s n = pf at *
  generalize packed k i x y s n = pk at *
  generalize pack14 k i x y s n = F at *
  have hmx := i64_mask24 x
  have hmy := i64_mask24 y
  generalize x % 16777216 = xm at *
  generalize y % 16777216 = ym at *
  have hw0 := wrap_byte (k)
  have hw1 := wrap_byte (i / 16777216)
  have hw2 := wrap_byte (i / 65536)
  have hw3 := wrap_byte (i / 256)
  have hw4 := wrap_byte (i)
  have hw5 := wrap_byte (xm / 65536)
  have hw6 := wrap_byte (xm / 256)
  have hw7 := wrap_byte (xm)
  have hw8 := wrap_byte (ym / 65536)
  have hw9 := wrap_byte (ym / 256)
  have hw10 := wrap_byte (ym)
  have hw11 := wrap_byte (s)
  have hw12 := wrap_byte (n)
  generalize (k) % 256 = c0 at *
  generalize (i / 16777216) % 256 = c1 at *
  generalize (i / 65536) % 256 = c2 at *
  generalize (i / 256) % 256 = c3 at *
  generalize (i) % 256 = c4 at *
  generalize (xm / 65536) % 256 = c5 at *
  generalize (xm / 256) % 256 = c6 at *
  generalize (xm) % 256 = c7 at *
  generalize (ym / 65536) % 256 = c8 at *
  generalize (ym / 256) % 256 = c9 at *
  generalize (ym) % 256 = c10 at *
  generalize (s) % 256 = c11 at *
  generalize (n) % 256 = c12 at *
  unfold vReport at HS ⊢
  go_enter Try.func29, Try.ntmps29
  go_wp2_with fail
  refine (unhide HS _).mono ?_
  rintro e w1 ⟨rfl, hb⟩
  replace HB := hide (Below.step (unhide HB) hb)
  replace HO := hide ((unhide HO).step hb)
  clear hb HS
  cases hr : repB k i x y s n
  · rw [hr] at HN
    go_wp2
    refine bodyPost_ret (v := .tuple #[.slice (some ⟨w1.heap.size, 0, none⟩) 0 0, .bool false]) (by simp [results, Try.results29, go_sem]) rfl ⟨_, 0, 0, by rw [hr], ?_, Below.step (unhide HB) (Below.alloc1 _ _)⟩
    rw [unhide HN]
    exact ⟨_, 0, rfl, Nat.le_refl _, Nat.zero_le _, fun h => absurd rfl h⟩
  rw [hr, if_pos rfl] at HN
  have d0 := (unhide HO).cell (i := 0) rfl
  have d1 := (unhide HO).cell (i := 1) rfl
  have d2 := (unhide HO).cell (i := 2) rfl
  have d3 := (unhide HO).cell (i := 3) rfl
  have d4 := (unhide HO).cell (i := 4) rfl
  have d5 := (unhide HO).cell (i := 5) rfl
  go_wp2
  go_quiet (fail)
  clear d0 d1 d2 d3 d4 d5
  have hbd := below_drewN (Below.refl w1.heap.size w1) nq
  replace HB := hide (Below.step (unhide HB) hbd)
  replace HO := hide ((unhide HO).step hbd)
  generalize w1.drewN nq = w2 at *
  clear hbd hmx hmy
  have d0 := (unhide HO).cell (i := 0) rfl
  have d1 := (unhide HO).cell (i := 1) rfl
  have d2 := (unhide HO).cell (i := 2) rfl
  have d3 := (unhide HO).cell (i := 3) rfl
  have d4 := (unhide HO).cell (i := 4) rfl
  have d5 := (unhide HO).cell (i := 5) rfl
  have hlt := (unhide HO).lt
  have hO2 := ownV_alloc w2 #[.int .u8 c0, .int .u8 c1, .int .u8 c2, .int .u8 c3, .int .u8 c4, .int .u8 c5, .int .u8 c6, .int .u8 c7, .int .u8 c8, .int .u8 c9, .int .u8 c10, .int .u8 c11, .int .u8 c12, .int .u8 0] 5
  have hR2 := ownsRow_lit w2 #[.int .u8 c0, .int .u8 c1, .int .u8 c2, .int .u8 c3, .int .u8 c4, .int .u8 c5, .int .u8 c6, .int .u8 c7, .int .u8 c8, .int .u8 c9, .int .u8 c10, .int .u8 c11, .int .u8 c12, .int .u8 0] 5 14 rfl (by unfold maxLen; omega)
  rw [show (#[.int .u8 c0, .int .u8 c1, .int .u8 c2, .int .u8 c3, .int .u8 c4, .int .u8 c5, .int .u8 c6, .int .u8 c7, .int .u8 c8, .int .u8 c9, .int .u8 c10, .int .u8 c11, .int .u8 c12, .int .u8 0] : Array Value).toList = F.map eB from (unhide HF).symm] at hO2 hR2
  have hA := Below.alloc1 w2 (.cells #[.int .u8 c0, .int .u8 c1, .int .u8 c2, .int .u8 c3, .int .u8 c4, .int .u8 c5, .int .u8 c6, .int .u8 c7, .int .u8 c8, .int .u8 c9, .int .u8 c10, .int .u8 c11, .int .u8 c12, .int .u8 0] 5)
  have hBy : ByIn (w2.alloc (.cells #[.int .u8 c0, .int .u8 c1, .int .u8 c2, .int .u8 c3, .int .u8 c4, .int .u8 c5, .int .u8 c6, .int .u8 c7, .int .u8 c8, .int .u8 c9, .int .u8 c10, .int .u8 c11, .int .u8 c12, .int .u8 0] 5)) (.slice (some ⟨w2.heap.size, 0, none⟩) 14 14) F := by
    have := OwnV.cIn (cap := 14) hO2 (by omega) (by unfold maxLen; omega)
    rw [hF14] at this
    exact this
  have PC := hide (l9Check_any _ _ _ F _ hBy (by omega))
  rw [List.take_of_length_le (by omega)] at PC
  have HR2 := hide hR2
  have HB2 := hide (Below.step (unhide HB) hA)
  have hsz2 : w.heap.size ≤ w2.heap.size := by omega
  clear hO2 hR2 hA hBy
  have hcl := crcL_lt F
  have hb1 := wrap_byte ((crcL F : Nat) / 256 : Int)
  have hb2 := wrap_byte (crcL F : Nat)
  have eb1 := eB_toB ((crcL F : Nat) / 256 : Int)
  have eb2 := eB_toB (crcL F : Nat)
  generalize toB ((crcL F : Nat) / 256 : Int) = t1 at *
  generalize toB (crcL F : Nat) = t2 at *
  generalize crcL F = cc at *
  generalize ((cc : Nat) / 256 : Int) % 256 = z1 at *
  generalize ((cc : Nat) : Int) % 256 = z2 at *
  have HE : Hid ([.int .u8 z1, .int .u8 z2] = ([t1, t2] : List Byte).map eB) := by show _ = _; simp [eb1, eb2]
  clear eb1 eb2
  go_wp2_with fail
  refine (unhide PC).mono ?_
  rintro e w3 ⟨rfl, h9⟩
  rw [← h9] at HR2 HB2
  have hsz3 : w2.heap.size < w3.heap.size := by rw [h9]; simp
  clear h9 PC d0 d1 d2 d3 d4 d5 HF HO
  clear hw0
  clear hw1
  clear hw2
  clear hw3
  clear hw4
  clear hw5
  clear hw6
  clear hw7
  clear hw8
  clear hw9
  clear hw10
  clear hw11
  clear hw12
  obtain ⟨i0, hi, hzz⟩ := Option.map_eq_some_iff.1 Try.infoU8
  simp only [Prod.mk.injEq] at hzz
  obtain ⟨hz0, hz1, hz2⟩ := hzz
  have HR3 := hide (ownsRow_below (unhide HR2) (Below.alloc1 w3 (.cells #[.int .u8 z1, .int .u8 z2] 5)))
  go_wp2_with (at_builtin; refine wpList_append_lies _ rfl _ _ 22 rfl w2.heap.size 5 i0 _ 1 1 Try.underlying22 hi hz0 hz1 hz2 rfl (by decide) _ 14 _ rfl (unhide HR3) ⟨w3.heap.size, 0, none⟩ 2 2 [.int .u8 z1, .int .u8 z2] rfl rfl (bb_cell _ _ _ _) (bb_one _ _) (by omega) (by unfold maxLen; omega) (by omega) (by simp; omega) _ rfl ?_; intro g4 cap4 wa hown hgrow hat hlt4; have HWa := hide ((((Below.refl w2.heap.size w3)).alloc (by omega) (.cells #[.int .u8 z1, .int .u8 z2] 5)).grown hgrow (by simp; omega) (fun g hg => ((unhide HR2).lt g hg).1)); have HOW := hide hown; clear hown hgrow hat)
  refine bodyPost_ret (v := .tuple #[.slice (some ⟨g4, 0, none⟩) 16 cap4, .bool true]) (by simp [results, Try.results29, go_sem]) rfl ⟨some ⟨g4, 0, none⟩, 16, cap4, by rw [hr], ?_, (unhide HB2).trans ((unhide HWa).mono hsz2)⟩
  rw [unhide HN, unhide HPK]
  have hown := unhide HOW
  rw [unhide HE, ← List.map_append] at hown
  exact (ownsRow_ownC hown (by simp [hF14])).mono hsz2

end Go.Proofs.Ytkjikjeecjendaa

/- FnFrames: whatever the bytes, a drawn report that is right comes back from its frame, and a frame with one or two bits turned is not taken. Written by wip/mkfrl.py. -/
namespace Go.Proofs.Ytkjikjeecjendaa
open Go.RowKit

theorem Try.eqgRep : Try.prog.eqGuardType Try.prog.depth 25 = false := by kernel_rfl
theorem Try.heldRep : Try.prog.stoodInHeld 25 = false := by kernel_rfl
theorem neq_rep (k i x y s n : Int) (w : World) : (binOp .neq 25 (.agg #[.int .i64 k, .int .i64 i, .int .i64 x, .int .i64 y, .int .i64 s, .int .i64 n]) (.agg #[.int .i64 k, .int .i64 i, .int .i64 x, .int .i64 y, .int .i64 s, .int .i64 n])).run Try.prog w = .ok (.bool false) w := by
  rw [run_neq_struct, run_equalIn_agg _ _ _ _ _ (by rw [Program.fieldsOf, Try.underlying25]) Try.heldRep]
  simp [go_sem, Program.fieldsOf, Try.underlying25, Try.underlying3]
theorem at_nat (v : Value) (n B k : Nat) (w : World) (h : BytesIn B w v n) (hn : n ≤ 1048576) (hk : k ≤ 1000) :
    Calls Try.prog 19 #[v, .int .i64 k] w fun e w' => ∃ x : Nat, e = .returned (.int .i64 x) ∧ x ≤ 255 ∧ w = w' := by
  refine (at_any v n B k w h hn hk).mono ?_
  rintro e w' ⟨x, rfl, h0, h1, rfl⟩
  exact ⟨x.toNat, by rw [Int.toNat_of_nonneg h0], by omega, rfl⟩

theorem turn_val (b r : Nat) (hb : b < 256) (hr : r < 8) : bits .xor .u8 (b : Int) ((2 : Int) ^ r % 256) = ((b ^^^ 2 ^ r : Nat) : Int) := by
  have h1 := p8_lt r hr
  have e : (2 : Int) ^ r % 256 = ((2 ^ r : Nat) : Int) := by
    have : ((2 ^ r : Nat) : Int) = (2 : Int) ^ r := by rw [Int.natCast_pow]; rfl
    rw [← this]
    generalize 2 ^ r = d at h1 ⊢
    omega
  rw [e]
  exact u8_xor_nat b (2 ^ r) hb h1
theorem own_turn {w : World} {g : Nat} {L : List Byte} {A q r bv : Nat} (h : OwnV w g (L.map eB)) (hq : A / 8 = q) (hr : A % 8 = r) (hb : bv = (L.getD q default).val) (hl : q < L.length) :
    OwnV (w.setCell ⟨g, q, none⟩ (.int .u8 (bits .xor .u8 (bv : Int) ((2 : Int) ^ r % 256)))).drew g ((turnL L A).map eB) := by
  subst hq
  subst hr
  have hlt := (L.getD (A / 8) default).isLt
  rw [turn_val bv _ (by omega) (Nat.mod_lt _ (by omega)), hb]
  have := h.set (A / 8) (eB (turnB (L.getD (A / 8) default) (2 ^ (A % 8)) (p8_lt _ (Nat.mod_lt _ (by omega))))) (by rw [List.length_map]; exact hl)
  rw [← List.map_set] at this
  exact this
theorem take15 {w : World} {g cap : Nat} {L : List Byte} (h : OwnV w g (L.map eB)) (hl : L.length = 16) (hc : 16 ≤ cap) (hm : cap ≤ maxLen) : ByIn w (.slice (some ⟨g, 0, none⟩) 15 cap) (L.take 15) := by
  have e : (L.take 15).length = 15 := by simp [hl]
  refine ⟨_, cap, by rw [e], by omega, hm, fun i hi => ⟨g, 0, rfl, ?_⟩⟩
  rw [e] at hi
  rw [Nat.zero_add, h.cell (map_get L (i := i) (by omega))]
  simp [List.getD, hi]

set_option maxRecDepth 10000 in
set_option maxHeartbeats 3200000 in
theorem fnFrames_any (v : Value) (nb : Nat) (w : World) (h : BytesIn w.heap.size w v nb) :
    Calls Try.prog 3 #[v] w fun e w' => e = .returned (.bool true) ∧ Below w.heap.size w w' := by
  obtain ⟨i0, hinf, hzz⟩ := Option.map_eq_some_iff.1 Try.infoU8
  simp only [Prod.mk.injEq] at hzz
  obtain ⟨hz0, hz1, hz2⟩ := hzz
  have HB := hide h
  have HD := hide fun hn => drawPackReport_any v nb w h hn
  obtain ⟨vao, vcap, rfl, hl, hm, _⟩ := h
  unfold maxLen at hm
  have HBIG := hide (big_any vao nb vcap w)
  cases hbig : decide ((1048576 : Int) < (nb : Int)) with
  | true =>
    rw [hbig] at HBIG
    go_enter Try.func3, Try.ntmps3
    go_wp2_with fail
    refine (unhide HBIG).mono ?_
    rintro e w' ⟨rfl, rfl⟩
    go_wp2
    go_ret
    exact ⟨rfl, Below.refl _ _⟩
  | false =>
  rw [hbig] at HBIG
  have hnb : nb ≤ 1048576 := by rw [decide_eq_false_iff_not] at hbig; omega
  replace HD := hide (unhide HD hnb)
  have HAT := hide fun W (hW : Below w.heap.size w W) k hk => at_nat _ nb w.heap.size k W ((unhide HB).below hW (Nat.le_refl _)) hnb hk
  clear hbig
  go_enter Try.func3, Try.ntmps3
  go_wp2_with fail
  refine (unhide HBIG).mono ?_
  rintro e w' ⟨rfl, h9⟩
  have h8 := h9.symm
  subst h8
  clear h9 HBIG
  go_wp2_with fail
  refine (unhide HD).mono ?_
  rintro e w1 ⟨k, i, x, y, s, m, rfl, hb⟩
  have HK := hide (packed_read (k := k) (i := i) (x := x) (y := y) (s := s) (n := m))
  have HCK := hide (packed_chk k i x y s m)
  have HLN := hide (packed_len k i x y s m)
  have HW := hide hb
  clear hb HD
  have HP := hide fun W => implPackReport_any k i x y s m W
  have HS := hide fun W => specReportOk_any k i x y s m W
  have HI := hide fun W => implReportOk_any k i x y s m W
  have hA := Below.alloc1 w1 (.cells #[.int .i64 k, .int .i64 i, .int .i64 x, .int .i64 y, .int .i64 s, .int .i64 m] 25)
  have HO := hide (ownV_alloc w1 #[.int .i64 k, .int .i64 i, .int .i64 x, .int .i64 y, .int .i64 s, .int .i64 m] 25)
  replace HW := hide (Below.step (unhide HW) hA)
  have hw1 := (unhide HW).size
  clear hA
  generalize hrep : repB k i x y s m = B at *
  have HPF : Hid (packF k i x y s m = if B then packed k i x y s m else []) := by show _ = _; unfold packF; rw [hrep]
  rw [unhide HPF] at HP
  generalize packed k i x y s m = FR at *
  unfold vReport at HP HS HI HK ⊢
  clear hrep HPF
  have d0 := (unhide HO).cell (i := 0) rfl
  have d1 := (unhide HO).cell (i := 1) rfl
  have d2 := (unhide HO).cell (i := 2) rfl
  have d3 := (unhide HO).cell (i := 3) rfl
  have d4 := (unhide HO).cell (i := 4) rfl
  have d5 := (unhide HO).cell (i := 5) rfl
  generalize hV : w1.alloc (.cells #[.int .i64 k, .int .i64 i, .int .i64 x, .int .i64 y, .int .i64 s, .int .i64 m] 25) = V at *
  go_wp2_with fail
  refine (unhide HP _).mono ?_
  rintro e w2 ⟨fa, fn, fc, rfl, ho, hb⟩
  have HF := hide ho
  clear ho hV
  clear d0 d1 d2 d3 d4 d5
  replace HO := hide ((unhide HO).step hb)
  replace HW := hide (Below.step (unhide HW) hb)
  clear hb
  have d0 := (unhide HO).cell (i := 0) rfl
  have d1 := (unhide HO).cell (i := 1) rfl
  have d2 := (unhide HO).cell (i := 2) rfl
  have d3 := (unhide HO).cell (i := 3) rfl
  have d4 := (unhide HO).cell (i := 4) rfl
  have d5 := (unhide HO).cell (i := 5) rfl
  go_wp2_with fail
  refine (unhide HS _).mono ?_
  rintro e w3 ⟨rfl, hb⟩
  replace HF := hide ((unhide HF).upto.below hb)
  clear d0 d1 d2 d3 d4 d5
  replace HO := hide ((unhide HO).step hb)
  replace HW := hide (Below.step (unhide HW) hb)
  clear hb
  clear HS
  have d0 := (unhide HO).cell (i := 0) rfl
  have d1 := (unhide HO).cell (i := 1) rfl
  have d2 := (unhide HO).cell (i := 2) rfl
  have d3 := (unhide HO).cell (i := 3) rfl
  have d4 := (unhide HO).cell (i := 4) rfl
  have d5 := (unhide HO).cell (i := 5) rfl
  cases B with
  | false =>
    have hF := unhide HF
    obtain ⟨a', c', e', -⟩ := hF
    simp only [Bool.false_eq_true, if_false, List.length_nil, Value.slice.injEq] at e'
    obtain ⟨rfl, rfl, rfl⟩ := e'
    clear HF
    go_wp2_with fail
    refine (unhide HI _).mono ?_
    rintro e w4 ⟨rfl, hb⟩
    replace HW := hide (Below.step (unhide HW) hb)
    clear hb
    go_wp2
    go_ret
    exact ⟨rfl, unhide HW⟩
  | true =>
  obtain ⟨HK1, HK2⟩ := unhide HK rfl
  replace HK := hide HK1
  have HKV := hide HK2
  clear HK1 HK2
  rw [if_pos rfl] at HF
  obtain ⟨a', c', e', hc1, hc2, hF⟩ := unhide HF
  simp only [unhide HLN, Value.slice.injEq] at e'
  obtain ⟨rfl, rfl, rfl⟩ := e'
  rw [unhide HLN] at hc1
  obtain ⟨gf, rfl, hgf, hgu, hof⟩ := hF (fun e => by have := unhide HLN; rw [e] at this; simp at this)
  replace HF := hide hof
  clear hof hF
  have hfc : fc ≤ 9223372036854775807 := by unfold maxLen at hc2; omega
  have HFC := hide hc2
  clear hc2
  go_wp2_with fail
  refine (unhide HI _).mono ?_
  rintro e w4 ⟨rfl, hb⟩
  replace HF := hide ((unhide HF).step hb)
  clear d0 d1 d2 d3 d4 d5
  replace HO := hide ((unhide HO).step hb)
  replace HW := hide (Below.step (unhide HW) hb)
  clear hb
  clear HI HP
  have HR1 := hide (implReadReport_any _ FR w4 (by have := OwnV.cIn (unhide HF) (cap := fc) (by rw [unhide HLN]; exact hc1) (unhide HFC); rw [unhide HLN] at this; exact this))
  rw [unhide HK, unhide HKV] at HR1
  go_wp2_with fail
  refine (unhide HR1).mono ?_
  rintro e w5 ⟨rfl, hb⟩
  replace HF := hide ((unhide HF).step hb)
  replace HO := hide ((unhide HO).step hb)
  replace HW := hide (Below.step (unhide HW) hb)
  clear hb
  clear HR1 HK HKV
  have hA := Below.alloc1 w5 (.cells #[.int .i64 k, .int .i64 i, .int .i64 x, .int .i64 y, .int .i64 s, .int .i64 m] 25)
  have HO2 := hide (ownV_alloc w5 #[.int .i64 k, .int .i64 i, .int .i64 x, .int .i64 y, .int .i64 s, .int .i64 m] 25)
  replace HO := hide ((unhide HO).step hA)
  replace HF := hide ((unhide HF).step hA)
  replace HW := hide (Below.step (unhide HW) hA)
  have f0 := (unhide HO2).cell (i := 0) rfl
  have f1 := (unhide HO2).cell (i := 1) rfl
  have f2 := (unhide HO2).cell (i := 2) rfl
  have f3 := (unhide HO2).cell (i := 3) rfl
  have f4 := (unhide HO2).cell (i := 4) rfl
  have f5 := (unhide HO2).cell (i := 5) rfl
  clear hA
  have d0 := (unhide HO).cell (i := 0) rfl
  have d1 := (unhide HO).cell (i := 1) rfl
  have d2 := (unhide HO).cell (i := 2) rfl
  have d3 := (unhide HO).cell (i := 3) rfl
  have d4 := (unhide HO).cell (i := 4) rfl
  have d5 := (unhide HO).cell (i := 5) rfl
  have hNe := neq_rep k i x y s m
  have hGd := fun x' y' w => run_eqGuard_agg (P := Try.prog) w .neq 25 x' y' #[.int .i64 k, .int .i64 i, .int .i64 x, .int .i64 y, .int .i64 s, .int .i64 m] #[.int .i64 k, .int .i64 i, .int .i64 x, .int .i64 y, .int .i64 s, .int .i64 m] Try.eqgRep
  generalize hV : w5.alloc (.cells #[.int .i64 k, .int .i64 i, .int .i64 x, .int .i64 y, .int .i64 s, .int .i64 m] 25) = V5 at *
  go_wp2_with fail
  refine (unhide HAT _ (unhide HW) 1 (by omega)).mono ?_
  rintro e w6 ⟨ra, rfl, hra, h9⟩
  subst h9
  go_wp2_with fail
  refine (unhide HAT _ (unhide HW) 2 (by omega)).mono ?_
  rintro e w6 ⟨rb, rfl, hrb, h9⟩
  subst h9
  clear hNe hGd f0 f1 f2 f3 f4 f5 HO2 HO HAT HB d0 d1 d2 d3 d4 d5

  obtain ⟨A, hmA⟩ : ∃ A : Nat, (ra : Int) % 128 = (A : Int) := ⟨ra % 128, by omega⟩
  obtain ⟨C, hmC⟩ : ∃ C : Nat, (rb : Int) % 128 = (C : Int) := ⟨rb % 128, by omega⟩
  have hA8 : A < 128 := by omega
  have hC8 : C < 128 := by omega
  have hgv : gf < V5.heap.size := (unhide HF).lt
  have hwv : w'.heap.size ≤ V5.heap.size := (unhide HW).size
  have HB0 := hide (Below.alloc1 V5 (.cells #[] 5))
  have HM0 := hide (ownsRow_lit V5 #[] 5 0 rfl (by unfold maxLen; omega))
  have HN0 := hide fun j u (hj : (FR.map eB)[j]? = some u) => ((unhide HF).step (unhide HB0)).cell hj
  clear hV
  go_wp2_with (at_builtin; go_must (refine wpList_append_whole rfl _ _ 22 rfl V5.heap.size 5 i0 _ 1 1 Try.underlying22 hinf hz0 hz1 hz2 rfl (by decide) V5.heap.size rfl (unhide HM0) (some ⟨gf, 0, none⟩) 16 fc (FR.map eB) rfl (by rw [List.length_map, unhide HLN]) (fun _ => ⟨_, rfl, fun j u hj => by rw [show (⟨gf, 0, none⟩ : Addr).add j = ⟨gf, j, none⟩ from by cases j <;> simp [Addr.add]]; exact unhide HN0 j u hj⟩) (fun u hu => by obtain ⟨z, _, rfl⟩ := List.mem_map.1 hu; rfl) (by unfold maxLen; omega) (by omega) (by simp) ?_); intro gh ch w7 hown hgrow hat; have HBW := hide ((unhide HB0).grown hgrow (by simp) (fun g hg => by simp at hg; omega)); have HOW := hide hown; clear hown hgrow hat)
  have hb := unhide HBW
  replace HW := hide (Below.step (unhide HW) hb)
  replace HF := hide ((unhide HF).step hb)
  obtain ⟨a', c', e', hd1, hd2, hH⟩ := ownsRow_ownC (E := eB) (unhide HOW) (unhide HLN)
  simp only [unhide HLN, Value.slice.injEq, true_and] at e'
  obtain ⟨rfl, rfl⟩ := e'
  rw [unhide HLN] at hd1
  obtain ⟨gh', egh, hgh, hoh⟩ := hH (fun e => by have := unhide HLN; rw [e] at this; simp at this)
  simp only [Option.some.injEq, Addr.mk.injEq, and_true] at egh
  subst egh
  have HH := hide hoh
  have HDC := hide hd2
  have hch : ch ≤ 9223372036854775807 := by unfold maxLen at hd2; omega
  clear hb hoh hH hd2 HOW HBW HM0 HN0 HB0
  obtain ⟨q1, hq1⟩ : ∃ q : Nat, A / 8 = q := ⟨_, rfl⟩
  obtain ⟨r1, hr1⟩ : ∃ r : Nat, A % 8 = r := ⟨_, rfl⟩
  have t1 : (A : Int) / 8 = (q1 : Int) := by omega
  have t2 : (A : Int) % 8 = (r1 : Int) := by omega
  have hq16 : (q1 : Int) < 16 := by omega
  have hr8 : (r1 : Int) < 8 := by omega
  have hr8n : r1 < 8 := by omega
  have bq := (unhide HH).cell (map_get (E := eB) FR (i := q1) (by rw [unhide HLN]; omega))
  have fq := (unhide HH).frozen q1
  have hbl := (FR.getD q1 default).isLt
  unfold eB at bq
  obtain ⟨bv, ebv⟩ : ∃ z, z = (FR.getD q1 default).val := ⟨_, rfl⟩
  rw [← ebv] at bq hbl
  have HEB := hide ebv
  have HQ := hide hq1
  have HRR := hide hr1
  clear ebv hq1 hr1
  have hwg : w'.heap.size ≤ gh := by omega
  have HHN := hide (own_turn (A := A) (unhide HH) (unhide HQ) (unhide HRR) (unhide HEB) (by rw [unhide HLN]; omega))
  have HKN : Hid (Kept (fun b => b = gh) w7 (w7.setCell ⟨gh, q1, none⟩ (.int .u8 (bits .xor .u8 (bv : Int) ((2 : Int) ^ r1 % 256)))).drew) := ((Kept.refl (fun b => b = gh) w7).setCell (p := ⟨gh, q1, none⟩) rfl _).trans (kept_of_below (below_drewN (Below.refl _ _) 1))
  go_region
  obtain ⟨w8, hwn⟩ : ∃ z, z = (w7.setCell ⟨gh, q1, none⟩ (.int .u8 (bits .xor .u8 (bv : Int) ((2 : Int) ^ r1 % 256)))).drew := ⟨_, rfl⟩
  rw [← hwn] at HHN HKN ⊢
  replace HH := HHN
  replace HF := hide ((unhide HF).kept (unhide HKN) (by omega))
  replace HW := hide ((unhide HW).trans ((unhide HKN).below (B := w'.heap.size) (unhide HW).size (fun b e => by omega)))
  clear HHN HKN hwn bq fq hbl HEB HQ HRR t1 t2 hq16 hr8 hr8n
  have E1 := read_turn1 (unhide HLN) (unhide HCK) hA8
  have HR1 := hide (implReadReport_any _ (turnL FR A) w8 (by have := OwnV.cIn (unhide HH) (cap := ch) (by rw [turnL_len, unhide HLN]; exact hd1) (unhide HDC); rw [turnL_len, unhide HLN] at this; exact this))
  rw [E1, readV_not E1 (by omega)] at HR1
  have E2 := hide (fun h : A ≠ C => read_turn2 (unhide HLN) (unhide HCK) hA8 hC8 h)
  clear E1
  unfold vReport at HR1
  go_wp2_with fail
  refine (unhide HR1).mono ?_
  rintro e w9 ⟨rfl, hb⟩
  have hA := Below.step hb (Below.alloc1 w9 (.cells #[.int .i64 0, .int .i64 0, .int .i64 0, .int .i64 0, .int .i64 0, .int .i64 0] 25))
  replace HH := hide ((unhide HH).step hA)
  replace HF := hide ((unhide HF).step hA)
  replace HW := hide (Below.step (unhide HW) hA)
  clear hb hA HR1
  have E3 : readC (FR.take 15) = 1 := readC_len (by simp [unhide HLN])
  have HR2 := hide (implReadReport_any _ (FR.take 15) _ (take15 (unhide HF) (unhide HLN) hc1 (unhide HFC)))
  rw [E3, readV_not E3 (by omega)] at HR2
  clear E3
  unfold vReport at HR2
  have h15 : (15 : Int) ≤ (fc : Int) := by omega
  have h15n : 15 ≤ fc := by omega
  go_wp2_with fail
  refine (unhide HR2).mono ?_
  rintro e wA ⟨rfl, hb⟩
  have hA := Below.step hb (Below.alloc1 wA (.cells #[.int .i64 0, .int .i64 0, .int .i64 0, .int .i64 0, .int .i64 0, .int .i64 0] 25))
  replace HH := hide ((unhide HH).step hA)
  replace HW := hide (Below.step (unhide HW) hA)
  clear hb hA HR2 HF HCK h15 h15n
  by_cases hAC : A = C
  · subst hAC
    have hAA : ((A : Int) == (A : Int)) = true := by simp
    go_wp2
    go_ret
    exact ⟨rfl, unhide HW⟩
  have hne : ((A : Int) == (C : Int)) = false := by rw [beq_eq_false_iff_ne]; omega
  replace E2 := hide (unhide E2 hAC)
  clear hAC
  go_wp2
  generalize wA.alloc (.cells #[.int .i64 0, .int .i64 0, .int .i64 0, .int .i64 0, .int .i64 0, .int .i64 0] 25) = VA at *
  obtain ⟨q2, hq2⟩ : ∃ q : Nat, C / 8 = q := ⟨_, rfl⟩
  obtain ⟨r2, hr2⟩ : ∃ r : Nat, C % 8 = r := ⟨_, rfl⟩
  have t1 : (C : Int) / 8 = (q2 : Int) := by omega
  have t2 : (C : Int) % 8 = (r2 : Int) := by omega
  have hq16 : (q2 : Int) < 16 := by omega
  have hr8 : (r2 : Int) < 8 := by omega
  have hr8n : r2 < 8 := by omega
  have bq := (unhide HH).cell (map_get (E := eB) (turnL FR A) (i := q2) (by rw [turnL_len, unhide HLN]; omega))
  have fq := (unhide HH).frozen q2
  have hbl := ((turnL FR A).getD q2 default).isLt
  unfold eB at bq
  obtain ⟨bv, ebv⟩ : ∃ z, z = ((turnL FR A).getD q2 default).val := ⟨_, rfl⟩
  rw [← ebv] at bq hbl
  have HEB := hide ebv
  have HQ := hide hq2
  have HRR := hide hr2
  clear ebv hq2 hr2
  have HHN := hide (own_turn (A := C) (unhide HH) (unhide HQ) (unhide HRR) (unhide HEB) (by rw [turnL_len, unhide HLN]; omega))
  have HKN : Hid (Kept (fun b => b = gh) VA (VA.setCell ⟨gh, q2, none⟩ (.int .u8 (bits .xor .u8 (bv : Int) ((2 : Int) ^ r2 % 256)))).drew) := ((Kept.refl (fun b => b = gh) VA).setCell (p := ⟨gh, q2, none⟩) rfl _).trans (kept_of_below (below_drewN (Below.refl _ _) 1))
  go_region
  obtain ⟨wB, hwn⟩ : ∃ z, z = (VA.setCell ⟨gh, q2, none⟩ (.int .u8 (bits .xor .u8 (bv : Int) ((2 : Int) ^ r2 % 256)))).drew := ⟨_, rfl⟩
  rw [← hwn] at HHN HKN ⊢
  replace HH := HHN
  skip
  replace HW := hide ((unhide HW).trans ((unhide HKN).below (B := w'.heap.size) (unhide HW).size (fun b e => by omega)))
  clear HHN HKN hwn bq fq hbl HEB HQ HRR t1 t2 hq16 hr8 hr8n
  have HR3 := hide (implReadReport_any _ (turnL (turnL FR A) C) wB (by have := OwnV.cIn (unhide HH) (cap := ch) (by rw [turnL_len, turnL_len, unhide HLN]; exact hd1) (unhide HDC); rw [turnL_len, turnL_len, unhide HLN] at this; exact this))
  rw [unhide E2, readV_not (unhide E2) (by omega)] at HR3
  unfold vReport at HR3
  go_wp2_with fail
  refine (unhide HR3).mono ?_
  rintro e wC ⟨rfl, hb⟩
  replace HW := hide (Below.step (unhide HW) hb)
  clear hb HR3
  go_wp2
  go_ret
  exact ⟨rfl, unhide HW⟩

end Go.Proofs.Ytkjikjeecjendaa

/- How a slice of bytes that came in is opened. -/
namespace Go.Proofs.Ytkjikjeecjendaa
open Go.ChangeShapes Go.WideShapes Go.ChangeAt Go.RowKit

set_option maxRecDepth 100000 in
theorem open_bytes {H : Type} {enc : TypeId × Value → H} {W : World} {base : Nat} {v0 : Value} {d0 : DataW H} {p0 : List MemPlace} (hv : Value.okWide Try.prog W .any base 22 v0)
    (h0 : DataW.Trod enc Try.prog W 0 (fun _ => true) true 22 v0 d0 p0) : ∃ n, BytesIn W.heap.size W v0 n := by
  obtain ⟨a0, len, cap, rfl⟩ := okWide_slice Try.underlying22 hv
  obtain ⟨fuel, hf⟩ := h0
  rcases open_ints Try.underlying22 Try.underlying5 (by kernel_rfl) hf with ⟨hcs, _⟩ | ⟨x, l, c, zs, hcs, _, hl, hm, hz, _, hcell, hwz⟩
  · simp [Value.cells] at hcs
    obtain ⟨rfl, rfl, rfl⟩ := hcs
    exact ⟨0, none, 0, rfl, Nat.le_refl _, Nat.zero_le _, fun i hi => by omega⟩
  · simp [Value.cells] at hcs
    obtain ⟨rfl, rfl, rfl⟩ := hcs
    simp only [if_true] at hz
    refine ⟨len, some x, cap, rfl, hl, hm, fun i hi => ?_⟩
    obtain ⟨b, o, sp⟩ := x
    have hs : sp = none := by simpa [Addr.add] using World.cell?_spot (hcell 0 (by omega))
    subst hs
    have hc := hcell i (by omega)
    rw [add_plain] at hc
    have hb := bounds_u8 (hwz (zs.getD i 0) (by rw [getD_lt (show i < zs.length by omega)]; exact List.getElem_mem _))
    exact ⟨b, o, zs.getD i 0, rfl, lt_of_cell hc, hc, hb.1, by omega⟩

end Go.Proofs.Ytkjikjeecjendaa
