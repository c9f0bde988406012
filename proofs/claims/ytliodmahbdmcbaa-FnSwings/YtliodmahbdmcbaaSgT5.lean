/- The contract of the specification's Turns: it tells the same turns. -/
import Derived.Test.YtliodmahbdmcbaaSgT
namespace Go.Proofs.Ytliodmahbdmcbaa
open Go.RowKit

/-- What the turns so far are to one another. -/
structure TInv (s : TSt) : Prop where
  a : s.seen ≤ 1 → s.out = []
  b : 1 < s.seen → s.out ≠ [] ∧ (s.out.getD (s.out.length - 1) 0 < s.waits ↔ s.ahead < s.waits) ∧ s.ahead ≠ s.waits ∧ s.out.getD (s.out.length - 1) 0 ≠ s.waits

theorem last_snoc (xs : List Int) (x : Int) : (xs ++ [x]).getD ((xs ++ [x]).length - 1) 0 = x := by simp [List.getD]

theorem TInv.step {s : TSt} (h : TInv s) {x : Int} (hx : 0 < s.seen → x ≠ s.waits) : TInv (s.step x) := by
  constructor
  · intro h1
    have h1' : s.seen + 1 ≤ 1 := h1
    have h0 : s.seen = 0 := by omega
    have ht : turnB s x = false := by simp [turnB, h0]
    show (if turnB s x = true then _ else _) = _
    rw [ht, if_neg (by simp), h.a (by omega)]
  · intro h1
    have h1' : 1 < s.seen + 1 := h1
    have hx' := hx (by omega)
    show (if turnB s x = true then s.out ++ [s.waits] else s.out) ≠ [] ∧ (List.getD (if turnB s x = true then s.out ++ [s.waits] else s.out) ((if turnB s x = true then s.out ++ [s.waits] else s.out).length - 1) 0 < x ↔ s.waits < x) ∧ s.waits ≠ x ∧ List.getD (if turnB s x = true then s.out ++ [s.waits] else s.out) ((if turnB s x = true then s.out ++ [s.waits] else s.out).length - 1) 0 ≠ x
    cases ht : turnB s x with
    | true =>
      rw [if_pos rfl, last_snoc]
      exact ⟨by simp, Iff.rfl, fun e => hx' e.symm, fun e => hx' e.symm⟩
    | false =>
      rw [if_neg (by simp)]
      simp only [turnB, Bool.or_eq_false_iff, decide_eq_false_iff_not, Bool.and_eq_false_iff] at ht
      have h2 : 1 < s.seen := by omega
      obtain ⟨b1, b2, b3, b4⟩ := h.b h2
      have h3 : decide (s.ahead < s.waits) = decide (s.waits < x) := by
        rcases ht.2 with h | h
        · exact absurd h2 h
        · simpa using h
      rw [decide_eq_decide] at h3
      generalize s.out.getD (s.out.length - 1) 0 = q at *
      refine ⟨b1, ?_, fun e => hx' e.symm, ?_⟩
      · constructor
        · intro _; by_cases hc : s.waits < x
          · exact hc
          · have : ¬ q < s.waits := fun e => hc (h3.1 (b2.1 e)); omega
        · intro hc; have := b2.2 (h3.2 hc); omega
      · intro e
        by_cases hc : s.waits < x
        · have := b2.2 (h3.2 hc); omega
        · have : ¬ q < s.waits := fun e => hc (h3.1 (b2.1 e)); omega

theorem tinv (L : List Int) : ∀ k, TInv (tSt (mvTo L k)) ∧ (0 < k → 0 < (tSt (mvTo L k)).seen ∧ (tSt (mvTo L k)).waits = L.getD (k - 1) 0) ∧ (k = 0 → (tSt (mvTo L k)).seen = 0)
  | 0 => ⟨⟨fun _ => rfl, fun h => by simp [mvTo, tSt] at h⟩, fun h => by omega, fun _ => rfl⟩
  | k + 1 => by
    obtain ⟨ih1, ih2, ih3⟩ := tinv L k
    unfold mvTo
    split
    · rename_i h
      obtain ⟨j1, j2⟩ := ih2 h.1
      exact ⟨ih1, fun _ => ⟨j1, by rw [j2, Nat.add_sub_cancel]; exact h.2.symm⟩, fun h => by omega⟩
    · rename_i h
      rw [tSt_snoc]
      refine ⟨ih1.step (fun hs e => ?_), fun _ => ⟨Nat.succ_pos _, by simp [TSt.step]⟩, fun h => by omega⟩
      by_cases hk : 0 < k
      · exact h ⟨hk, by rw [e, (ih2 hk).2]⟩
      · have := ih3 (by omega); omega

theorem ownsRow_set {w : World} {base : Nat} {e : TypeId} {g m cap : Nat} {xs : List Value} (h : w.ownsRow base e 1 (.slice (some ⟨g, 0, none⟩) m cap) m xs) (j : Nat) (u : Value) :
    (w.setCell ⟨g, j, none⟩ u).ownsRow base e 1 (.slice (some ⟨g, 0, none⟩) m cap) m (xs.set j u) := by
  obtain ⟨h1, h2⟩ := h
  refine ⟨by rw [List.length_set]; exact h1, ?_⟩
  rcases h2 with ⟨hv, _⟩ | ⟨g', cap', cur, hv, hg, hh, hc, hm, hs, ht⟩
  · cases hv
  · simp only [Value.slice.injEq, Option.some.injEq, Addr.mk.injEq, and_true, true_and] at hv
    obtain ⟨rfl, rfl⟩ := hv
    refine Or.inr ⟨g, cap, cur.setIfInBounds j u, rfl, hg, by simp [World.setCell, Array.getElem?_modify, hh], hc, hm, by simpa using hs, ?_⟩
    rw [← ht]
    simp [List.take_set]

/-- The last of a list that ends in x, and what it is with another last. -/
theorem snoc_set (xs : List Int) (x y : Int) : (ints (xs ++ [x])).set xs.length (.int .i64 y) = ints (xs ++ [y]) := by
  simp [ints]

theorem ints_snoc (xs : List Int) (x : Int) : ints (xs ++ [x]) = ints xs ++ [.int .i64 x] := by simp [ints]

set_option maxRecDepth 10000 in
set_option maxHeartbeats 4000000 in
theorem specTurns_any (v : Value) (L : List Int) (w : World) (h : IntsIn w v L) :
    Calls Try.prog 23 #[v] w fun e w' => ∃ ao n cap, e = .returned (.slice ao n cap) ∧ OwnSl w.heap.size w' (.slice ao n cap) (turnsOf L) ∧ Below w.heap.size w w' := by
  have HV := hide h
  obtain ⟨ao, cap, rfl, hl, hm, hc⟩ := h
  unfold maxLen at hm
  have HC := hide hc
  clear hc
  have HA := hide (l3All_any _ L (-1000000000) 1000000000 (w.alloc (.cells #[] 3)) ((unhide HV).below (Below.alloc1 _ _)))
  have O2 : (w.alloc (.cells #[] 3)).ownsRow w.heap.size 3 1 (.slice (some ⟨w.heap.size, 0, none⟩) 0 0) 0 (ints []) :=
    ⟨rfl, Or.inr ⟨w.heap.size, 0, #[], rfl, Nat.le_refl _, Go.Deep.blk_alloc_new _ _, Nat.le_refl _, Nat.zero_le _, rfl, rfl⟩⟩
  have HO2 := hide O2
  clear O2
  cases hok : lvOk L with
  | false =>
    have HF : Hid (turnsOf L = []) := by show _ = _; simp [turnsOf, hok]
    have bad : ∀ V, OwnSl w.heap.size V (.slice (some ⟨w.heap.size, 0, none⟩) 0 0) (turnsOf L) := fun V => by
      rw [unhide HF]
      exact ⟨_, 0, rfl, Nat.le_refl _, Nat.zero_le _, fun h => absurd rfl h⟩
    have HBad := hide bad
    clear bad HF
    by_cases h2 : L.length ≤ 200
    · have h3 : (L.all fun x => inB x (-1000000000) 1000000000) = false := by
        rw [lvOk, decide_eq_true h2, Bool.true_and] at hok; exact hok
      rw [h3] at HA
      clear hok h3
      go_enter Try.func23, Try.ntmps23
      go_wp2_with (go_at_call 55; refine (unhide HA).mono ?_; rintro e w' ⟨rfl, rfl⟩; clear HA)
      go_ret
      exact ⟨_, _, _, rfl, unhide HBad _, Below.alloc1 _ _⟩
    · clear hok
      go_enter Try.func23, Try.ntmps23
      go_wp2
      go_ret
      exact ⟨_, _, _, rfl, unhide HBad _, Below.alloc1 _ _⟩
  | true =>
    have HF : Hid (turnsOf L = tOut (tSt (mvTo L L.length))) := by show _ = _; simp [turnsOf, hok]
    have hlen : L.length ≤ 200 := by simp only [lvOk, Bool.and_eq_true, decide_eq_true_eq] at hok; exact hok.1
    have h3 : (L.all fun x => inB x (-1000000000) 1000000000) = true := by simp only [lvOk, Bool.and_eq_true] at hok; exact hok.2
    rw [h3] at HA
    clear hok h3
    obtain ⟨i0, hi, hz0, hz1, hz2⟩ := info_parts Try.info3
    go_enter Try.func23, Try.ntmps23
    go_wp2_with (go_at_call 55; refine (unhide HA).mono ?_; rintro e w' ⟨rfl, rfl⟩; clear HA)
    go_loopg [3, 4] L.length (fun g ov i wr => ∃ k : Nat, k ≤ L.length ∧ g = L.length - k ∧ i = .int .i64 k ∧ wr.ownsRow w.heap.size 3 1 ov (tOut (tSt (mvTo L k))).length (ints (tOut (tSt (mvTo L k)))) ∧ Below w.heap.size w wr)
    case atStart => exact ⟨0, Nat.zero_le _, rfl, rfl, unhide HO2, Below.alloc1 _ _⟩
    case round =>
      obtain ⟨k, hk, rfl, rfl, hO, hB0⟩ := hrel
      by_cases hkn : k < L.length
      · obtain ⟨p, o, rfl, hcell⟩ := unhide HC k hkn
        have g1 := (hB0.cell (lt_of_cell hcell)).trans hcell
        have hsz := hB0.size
        have hbd := tSt_bd L k
        have HB0 := hide hB0
        have hki : (k : Int) < L.length := by omega
        by_cases hk0 : k = 0
        · subst hk0
          have E1 : Hid (tOut (tSt (mvTo L (0 + 1))) = [L.getD 0 0]) := by show _ = _; simp [mvTo, tSt, TSt.step, tOut, turnB]
          have hO0 : wr.ownsRow w.heap.size 3 1 _ 0 (ints []) := hO
          obtain ⟨_, a', c', rfl⟩ := ownsRow_ownSl hO0
          have HO : Hid (wr.ownsRow w.heap.size 3 1 (.slice a' 0 c') 0 (ints [])) := hO0
          rw [Nat.add_zero] at g1
          clear hO hO0 hcell hbd hB0
          generalize L.getD 0 0 = x at *
          go_wp2
          go_quiet (fail)
          obtain ⟨wq, eq⟩ : ∃ x, x = wr.drewN nq := ⟨_, rfl⟩
          rw [← eq]
          replace HO : Hid (wq.ownsRow w.heap.size 3 1 (.slice a' 0 c') 0 (ints [])) := by show World.ownsRow _ _ _ _ _ _ _; rw [eq]; exact unhide HO
          replace HB0 : Hid (Below w.heap.size w wq) := by show Below _ _ _; rw [eq]; exact below_drewN (unhide HB0) nq
          have hsq : w.heap.size ≤ wq.heap.size := (unhide HB0).size
          replace g1 : wq.cell? ⟨p, o, none⟩ = some (.int .i64 x) := by rw [eq]; exact g1
          clear eq
          go_wp2
          go_quiet (fail)
          obtain ⟨wz, eq⟩ : ∃ x, x = wq.drewN nq := ⟨_, rfl⟩
          rw [← eq]
          replace HO : Hid (wz.ownsRow w.heap.size 3 1 (.slice a' 0 c') 0 (ints [])) := by show World.ownsRow _ _ _ _ _ _ _; rw [eq]; exact unhide HO
          replace HB0 : Hid (Below w.heap.size w wz) := by show Below _ _ _; rw [eq]; exact below_drewN (unhide HB0) nq
          have hsz2 : w.heap.size ≤ wz.heap.size := (unhide HB0).size
          replace g1 : wz.cell? ⟨p, o, none⟩ = some (.int .i64 x) := by rw [eq]; exact g1
          clear eq
          go_wp2_with (at_builtin; refine wpList_append_own _ rfl _ _ 24 rfl w.heap.size 3 i0 (.int .i64 0) 1 8 Try.underlying24 hi hz0 hz1 hz2 rfl (by decide) _ _ _ rfl ((unhide HO).alloc _) ⟨wz.heap.size, 0, none⟩ 1 1 [.int .i64 x] rfl rfl ?c1 ?c2 ?c3 ?c4 ?c5 ?_)
          case c1 => exact cell_one_new _ _ _
          case c2 => intro u hu; simp at hu; subst hu; rfl
          case c3 => unfold maxLen; omega
          case c4 => omega
          case c5 => simp; omega
          intro v' w2 hown' hgrow _
          have HO3 := hide hown'
          have HB3 := hide (((unhide HB0).alloc (by omega) _).grown hgrow (by simp; omega) (fun g hg => ((unhide HO).lt g hg).1))
          clear hown' hgrow HO HB0
          go_wp2
          go_roundg (L.length - (0 + 1))
          case measure => omega
          case rel => exact ⟨0 + 1, by omega, rfl, by go_num, by rw [unhide E1]; exact unhide HO3, unhide HB3⟩
        · obtain ⟨hinv, hin2, _⟩ := tinv L k
          obtain ⟨hseen, hwait⟩ := hin2 (by omega)
          have E : Hid (mvTo L (k + 1) = if L.getD k 0 = (tSt (mvTo L k)).waits then mvTo L k else mvTo L k ++ [L.getD k 0]) := by
            show _ = _
            rw [hwait, mvTo]
            by_cases hx : L.getD k 0 = L.getD (k - 1) 0
            · rw [if_pos ⟨by omega, hx⟩, if_pos hx]
            · rw [if_neg (fun h => hx h.2), if_neg hx]
          have HI := hide hinv
          have ET := hide (tSt_snoc (mvTo L k) (L.getD k 0))
          have EO : Hid (tOut (tSt (mvTo L k)) = (tSt (mvTo L k)).out ++ [(tSt (mvTo L k)).waits]) := by show _ = _; rw [tOut, if_neg (by omega)]
          rw [unhide EO] at hO
          clear hinv hin2 hwait hB0 hcell
          generalize L.getD k 0 = x at *
          obtain ⟨⟨se, ah, wa, out⟩, es⟩ : ∃ s, s = tSt (mvTo L k) := ⟨_, rfl⟩
          rw [← es] at hO HI ET EO E hseen hbd
          have EO2 : Hid (tOut (tSt (mvTo L k)) = out ++ [wa]) := by show _ = _; rw [← es]; exact unhide EO
          clear es
          dsimp only at hO hseen hbd E EO
          obtain ⟨m, em⟩ : ∃ m, m = out.length + 1 := ⟨_, rfl⟩
          have el : (out ++ [wa]).length = m := by simp [em]
          rw [el] at hO
          have hm1 : m ≤ 201 := by omega
          have hO' := hO
          rw [em] at hO'
          obtain ⟨g0, cap0, rfl⟩ := ownsRow_some hO'
          rw [← em] at hO' ⊢
          have hin := (ownsRow_ownSl hO').1.intsIn
          obtain ⟨_, _, e0, g2⟩ := intAt hin (show out.length < m by omega)
          simp only [Option.some.injEq, Addr.mk.injEq, and_true] at e0
          obtain ⟨rfl, rfl⟩ := e0
          rw [Nat.zero_add, show (out ++ [wa]).getD out.length 0 = wa by simp [List.getD]] at g2
          have HO := hide hO'
          have HIN := hide hin
          have HM := hide em
          clear hO hO' hin el
          obtain ⟨j, ej⟩ : ∃ j, j = out.length := ⟨_, rfl⟩
          rw [← ej] at g2 em hbd
          have HJ := hide ej
          clear ej
          have q1 : IntKind.i64.wrap ((m : Int) - 1) = (j : Int) := by rw [IntKind.wrap_i64]; omega
          have q1' : (m : Int) - 1 = (j : Int) := by omega
          have q2 : (j : Int) < m := by omega
          have q3 : decide (0 < m) = true := by simp; omega
          have q3' : decide ((0 : Int) < (m : Int)) = true := by simp; omega
          cases hxw : (wa == x) with
          | true =>
            have hx : x = wa := by simpa using (show wa = x by simpa using hxw).symm
            have EF : Hid (tOut (tSt (mvTo L (k + 1))) = out ++ [wa]) := by show _ = _; rw [unhide E, if_pos hx, unhide EO2]
            clear E ET HI EO hx em
            go_wp2
            go_quiet (fail)
            obtain ⟨wq, eq⟩ : ∃ x, x = wr.drewN nq := ⟨_, rfl⟩
            rw [← eq]
            replace HO : Hid (wq.ownsRow w.heap.size 3 1 (.slice (some ⟨g0, 0, none⟩) m cap0) m (ints (out ++ [wa]))) := by show World.ownsRow _ _ _ _ _ _ _; rw [eq]; exact unhide HO
            replace HB0 : Hid (Below w.heap.size w wq) := by show Below _ _ _; rw [eq]; exact below_drewN (unhide HB0) nq
            have hsq : w.heap.size ≤ wq.heap.size := (unhide HB0).size
            replace g1 : wq.cell? ⟨p, o + k, none⟩ = some (.int .i64 x) := by rw [eq]; exact g1
            replace g2 : wq.cell? ⟨g0, j, none⟩ = some (.int .i64 wa) := by rw [eq]; exact g2
            clear eq
            go_wp2
            go_roundg (L.length - (k + 1))
            case measure => omega
            case rel => exact ⟨k + 1, by omega, rfl, by go_num, by rw [unhide EF, show (out ++ [wa]).length = m by simp [unhide HM]]; exact unhide HO, unhide HB0⟩
          | false =>
            have hx : ¬ x = wa := fun e => by rw [e] at hxw; simp at hxw
            have ES : Hid (tSt (mvTo L (k + 1)) = TSt.step ⟨se, ah, wa, out⟩ x) := by show _ = _; rw [unhide E, if_neg hx]; exact unhide ET
            have EF : Hid (tOut (tSt (mvTo L (k + 1))) = (if turnB ⟨se, ah, wa, out⟩ x = true then out ++ [wa] else out) ++ [x]) := by show _ = _; rw [unhide ES]; simp [tOut, TSt.step]
            clear E ET EO ES
            by_cases hs1 : se = 1
            · have ho : out = [] := (unhide HI).a (by dsimp only; omega)
              have ht : turnB ⟨se, ah, wa, out⟩ x = true := by simp [turnB, hs1]
              rw [ht, if_pos rfl] at EF
              have hj0 : j = 0 := by rw [unhide HJ, ho]; rfl
              have q4 : decide (1 < m) = false := by simp; omega
              have q4' : decide ((1 : Int) < (m : Int)) = false := by simp; omega
              clear ho ht HI em hj0 hs1 hseen
              go_wp2
              go_quiet (fail)
              obtain ⟨wq, eq⟩ : ∃ x, x = wr.drewN nq := ⟨_, rfl⟩
              rw [← eq]
              replace HO : Hid (wq.ownsRow w.heap.size 3 1 (.slice (some ⟨g0, 0, none⟩) m cap0) m (ints (out ++ [wa]))) := by show World.ownsRow _ _ _ _ _ _ _; rw [eq]; exact unhide HO
              replace HB0 : Hid (Below w.heap.size w wq) := by show Below _ _ _; rw [eq]; exact below_drewN (unhide HB0) nq
              have hsq : w.heap.size ≤ wq.heap.size := (unhide HB0).size
              replace g1 : wq.cell? ⟨p, o + k, none⟩ = some (.int .i64 x) := by rw [eq]; exact g1
              replace g2 : wq.cell? ⟨g0, j, none⟩ = some (.int .i64 wa) := by rw [eq]; exact g2
              clear eq
              go_wp2
              go_quiet (fail)
              obtain ⟨wz, eq⟩ : ∃ x, x = wq.drewN nq := ⟨_, rfl⟩
              rw [← eq]
              replace HO : Hid (wz.ownsRow w.heap.size 3 1 (.slice (some ⟨g0, 0, none⟩) m cap0) m (ints (out ++ [wa]))) := by show World.ownsRow _ _ _ _ _ _ _; rw [eq]; exact unhide HO
              replace HB0 : Hid (Below w.heap.size w wz) := by show Below _ _ _; rw [eq]; exact below_drewN (unhide HB0) nq
              have hsz2 : w.heap.size ≤ wz.heap.size := (unhide HB0).size
              replace g1 : wz.cell? ⟨p, o + k, none⟩ = some (.int .i64 x) := by rw [eq]; exact g1
              replace g2 : wz.cell? ⟨g0, j, none⟩ = some (.int .i64 wa) := by rw [eq]; exact g2
              clear eq
              go_wp2_with (at_builtin; refine wpList_append_own _ rfl _ _ 24 rfl w.heap.size 3 i0 (.int .i64 0) 1 8 Try.underlying24 hi hz0 hz1 hz2 rfl (by decide) _ _ _ rfl ((unhide HO).alloc _) ⟨wz.heap.size, 0, none⟩ 1 1 [.int .i64 x] rfl rfl ?c1 ?c2 ?c3 ?c4 ?c5 ?_)
              case c1 => exact cell_one_new _ _ _
              case c2 => intro u hu; simp at hu; subst hu; rfl
              case c3 => unfold maxLen; omega
              case c4 => omega
              case c5 => simp; omega
              intro v' w2 hown' hgrow _
              have HO3 := hide hown'
              have HB3 := hide (((unhide HB0).alloc (by omega) _).grown hgrow (by simp; omega) (fun g hg => ((unhide HO).lt g hg).1))
              clear hown' hgrow HO HB0
              go_wp2
              go_roundg (L.length - (k + 1))
              case measure => omega
              case rel => exact ⟨k + 1, by omega, rfl, by go_num, by rw [unhide EF, show ((out ++ [wa]) ++ [x]).length = m + 1 by simp [unhide HM], ints_snoc]; exact unhide HO3, unhide HB3⟩
            · have hs2 : 1 < se := by omega
              obtain ⟨b1, b2, b3, b4⟩ := (unhide HI).b (by dsimp only; omega)
              dsimp only at b1 b2 b3 b4
              have hj1 : 0 < j := by rw [unhide HJ]; exact List.length_pos_iff.2 b1
              obtain ⟨i, ei⟩ : ∃ i, i = j - 1 := ⟨_, rfl⟩
              obtain ⟨_, _, e0, g3⟩ := intAt (unhide HIN) (show i < m by omega)
              simp only [Option.some.injEq, Addr.mk.injEq, and_true] at e0
              obtain ⟨rfl, rfl⟩ := e0
              rw [Nat.zero_add, show (out ++ [wa]).getD i 0 = out.getD (out.length - 1) 0 by rw [ei, unhide HJ]; have := List.length_pos_iff.2 b1; simp [List.getD, List.getElem?_append, show out.length - 1 < out.length by omega]] at g3
              have HTU : Hid (turnB ⟨se, ah, wa, out⟩ x = (decide (out.getD (out.length - 1) 0 < wa) != decide (wa < x))) := by
                show _ = _
                simp only [turnB]
                rw [decide_eq_false (show ¬ se = 1 by omega), decide_eq_true hs2, decide_eq_decide.2 b2, Bool.false_or, Bool.true_and]
              generalize out.getD (out.length - 1) 0 = q at *
              have q5 : IntKind.i64.wrap ((m : Int) - 2) = (i : Int) := by rw [IntKind.wrap_i64]; omega
              have q5' : (m : Int) - 2 = (i : Int) := by omega
              have q6 : (i : Int) < m := by omega
              have q7 : decide (1 < m) = true := by simp; omega
              have q7' : decide ((1 : Int) < (m : Int)) = true := by simp; omega
              clear b1 b2 b3 b4 HI hs1 hseen hs2 ei em HIN
              by_cases ha : q < wa
              · by_cases hc : wa < x
                · skip
                  rw [unhide HTU, show (decide (q < wa) != decide (wa < x)) = false by simp [ha, hc], if_neg (by simp)] at EF
                  clear HTU
                  go_wp2
                  go_quiet (fail)
                  obtain ⟨wq, eq⟩ : ∃ x, x = wr.drewN nq := ⟨_, rfl⟩
                  rw [← eq]
                  replace HO : Hid (wq.ownsRow w.heap.size 3 1 (.slice (some ⟨g0, 0, none⟩) m cap0) m (ints (out ++ [wa]))) := by show World.ownsRow _ _ _ _ _ _ _; rw [eq]; exact unhide HO
                  replace HB0 : Hid (Below w.heap.size w wq) := by show Below _ _ _; rw [eq]; exact below_drewN (unhide HB0) nq
                  have hsq : w.heap.size ≤ wq.heap.size := (unhide HB0).size
                  replace g1 : wq.cell? ⟨p, o + k, none⟩ = some (.int .i64 x) := by rw [eq]; exact g1
                  replace g2 : wq.cell? ⟨g0, j, none⟩ = some (.int .i64 wa) := by rw [eq]; exact g2
                  replace g3 : wq.cell? ⟨g0, i, none⟩ = some (.int .i64 q) := by rw [eq]; exact g3
                  clear eq
                  go_wp2
                  go_quiet (fail)
                  obtain ⟨wz, eq⟩ : ∃ x, x = wq.drewN nq := ⟨_, rfl⟩
                  rw [← eq]
                  replace HO : Hid (wz.ownsRow w.heap.size 3 1 (.slice (some ⟨g0, 0, none⟩) m cap0) m (ints (out ++ [wa]))) := by show World.ownsRow _ _ _ _ _ _ _; rw [eq]; exact unhide HO
                  replace HB0 : Hid (Below w.heap.size w wz) := by show Below _ _ _; rw [eq]; exact below_drewN (unhide HB0) nq
                  have hsz2 : w.heap.size ≤ wz.heap.size := (unhide HB0).size
                  replace g1 : wz.cell? ⟨p, o + k, none⟩ = some (.int .i64 x) := by rw [eq]; exact g1
                  replace g2 : wz.cell? ⟨g0, j, none⟩ = some (.int .i64 wa) := by rw [eq]; exact g2
                  replace g3 : wz.cell? ⟨g0, i, none⟩ = some (.int .i64 q) := by rw [eq]; exact g3
                  clear eq
                  have f1 : wz.frozen? ⟨g0, j, none⟩ = false := by
                    rcases (unhide HO).2 with ⟨hv, _⟩ | ⟨g', cap', cur, hv, hg, hh, _⟩
                    · cases hv
                    · simp only [Value.slice.injEq, Option.some.injEq, Addr.mk.injEq, and_true, true_and] at hv
                      obtain ⟨rfl, rfl⟩ := hv
                      simp [World.frozen?, hh]
                  have HG : Hid (w.heap.size ≤ g0) := by
                    rcases (unhide HO).2 with ⟨hv, _⟩ | ⟨g', cap', cur, hv, hg, hh, _⟩
                    · cases hv
                    · simp only [Value.slice.injEq, Option.some.injEq, Addr.mk.injEq, and_true, true_and] at hv
                      obtain ⟨rfl, rfl⟩ := hv
                      exact hg
                  have HO3 := hide (ownsRow_set (unhide HO) j (.int .i64 x))
                  rw [unhide HJ, snoc_set, ← unhide HJ] at HO3
                  have HB3 := hide ((unhide HB0).setCell (p := ⟨g0, j, none⟩) (unhide HG) (.int .i64 x))
                  clear HO HB0 HG
                  go_wp2
                  go_roundg (L.length - (k + 1))
                  case measure => omega
                  case rel => exact ⟨k + 1, by omega, rfl, by go_num, by rw [unhide EF, show (out ++ [x]).length = m by simp [unhide HM]]; exact unhide HO3, unhide HB3⟩
                · skip
                  rw [unhide HTU, show (decide (q < wa) != decide (wa < x)) = true by simp [ha, hc], if_pos rfl] at EF
                  clear HTU
                  go_wp2
                  go_quiet (fail)
                  obtain ⟨wq, eq⟩ : ∃ x, x = wr.drewN nq := ⟨_, rfl⟩
                  rw [← eq]
                  replace HO : Hid (wq.ownsRow w.heap.size 3 1 (.slice (some ⟨g0, 0, none⟩) m cap0) m (ints (out ++ [wa]))) := by show World.ownsRow _ _ _ _ _ _ _; rw [eq]; exact unhide HO
                  replace HB0 : Hid (Below w.heap.size w wq) := by show Below _ _ _; rw [eq]; exact below_drewN (unhide HB0) nq
                  have hsq : w.heap.size ≤ wq.heap.size := (unhide HB0).size
                  replace g1 : wq.cell? ⟨p, o + k, none⟩ = some (.int .i64 x) := by rw [eq]; exact g1
                  replace g2 : wq.cell? ⟨g0, j, none⟩ = some (.int .i64 wa) := by rw [eq]; exact g2
                  replace g3 : wq.cell? ⟨g0, i, none⟩ = some (.int .i64 q) := by rw [eq]; exact g3
                  clear eq
                  go_wp2
                  go_quiet (fail)
                  obtain ⟨wz, eq⟩ : ∃ x, x = wq.drewN nq := ⟨_, rfl⟩
                  rw [← eq]
                  replace HO : Hid (wz.ownsRow w.heap.size 3 1 (.slice (some ⟨g0, 0, none⟩) m cap0) m (ints (out ++ [wa]))) := by show World.ownsRow _ _ _ _ _ _ _; rw [eq]; exact unhide HO
                  replace HB0 : Hid (Below w.heap.size w wz) := by show Below _ _ _; rw [eq]; exact below_drewN (unhide HB0) nq
                  have hsz2 : w.heap.size ≤ wz.heap.size := (unhide HB0).size
                  replace g1 : wz.cell? ⟨p, o + k, none⟩ = some (.int .i64 x) := by rw [eq]; exact g1
                  replace g2 : wz.cell? ⟨g0, j, none⟩ = some (.int .i64 wa) := by rw [eq]; exact g2
                  replace g3 : wz.cell? ⟨g0, i, none⟩ = some (.int .i64 q) := by rw [eq]; exact g3
                  clear eq
                  go_wp2_with (at_builtin; refine wpList_append_own _ rfl _ _ 24 rfl w.heap.size 3 i0 (.int .i64 0) 1 8 Try.underlying24 hi hz0 hz1 hz2 rfl (by decide) _ _ _ rfl ((unhide HO).alloc _) ⟨wz.heap.size, 0, none⟩ 1 1 [.int .i64 x] rfl rfl ?c1 ?c2 ?c3 ?c4 ?c5 ?_)
                  case c1 => exact cell_one_new _ _ _
                  case c2 => intro u hu; simp at hu; subst hu; rfl
                  case c3 => unfold maxLen; omega
                  case c4 => omega
                  case c5 => simp; omega
                  intro v' w2 hown' hgrow _
                  have HO3 := hide hown'
                  have HB3 := hide (((unhide HB0).alloc (by omega) _).grown hgrow (by simp; omega) (fun g hg => ((unhide HO).lt g hg).1))
                  clear hown' hgrow HO HB0
                  go_wp2
                  go_roundg (L.length - (k + 1))
                  case measure => omega
                  case rel => exact ⟨k + 1, by omega, rfl, by go_num, by rw [unhide EF, show ((out ++ [wa]) ++ [x]).length = m + 1 by simp [unhide HM], ints_snoc]; exact unhide HO3, unhide HB3⟩
              · by_cases hc : wa < x
                · skip
                  rw [unhide HTU, show (decide (q < wa) != decide (wa < x)) = true by simp [ha, hc], if_pos rfl] at EF
                  clear HTU
                  go_wp2
                  go_quiet (fail)
                  obtain ⟨wq, eq⟩ : ∃ x, x = wr.drewN nq := ⟨_, rfl⟩
                  rw [← eq]
                  replace HO : Hid (wq.ownsRow w.heap.size 3 1 (.slice (some ⟨g0, 0, none⟩) m cap0) m (ints (out ++ [wa]))) := by show World.ownsRow _ _ _ _ _ _ _; rw [eq]; exact unhide HO
                  replace HB0 : Hid (Below w.heap.size w wq) := by show Below _ _ _; rw [eq]; exact below_drewN (unhide HB0) nq
                  have hsq : w.heap.size ≤ wq.heap.size := (unhide HB0).size
                  replace g1 : wq.cell? ⟨p, o + k, none⟩ = some (.int .i64 x) := by rw [eq]; exact g1
                  replace g2 : wq.cell? ⟨g0, j, none⟩ = some (.int .i64 wa) := by rw [eq]; exact g2
                  replace g3 : wq.cell? ⟨g0, i, none⟩ = some (.int .i64 q) := by rw [eq]; exact g3
                  clear eq
                  go_wp2
                  go_quiet (fail)
                  obtain ⟨wz, eq⟩ : ∃ x, x = wq.drewN nq := ⟨_, rfl⟩
                  rw [← eq]
                  replace HO : Hid (wz.ownsRow w.heap.size 3 1 (.slice (some ⟨g0, 0, none⟩) m cap0) m (ints (out ++ [wa]))) := by show World.ownsRow _ _ _ _ _ _ _; rw [eq]; exact unhide HO
                  replace HB0 : Hid (Below w.heap.size w wz) := by show Below _ _ _; rw [eq]; exact below_drewN (unhide HB0) nq
                  have hsz2 : w.heap.size ≤ wz.heap.size := (unhide HB0).size
                  replace g1 : wz.cell? ⟨p, o + k, none⟩ = some (.int .i64 x) := by rw [eq]; exact g1
                  replace g2 : wz.cell? ⟨g0, j, none⟩ = some (.int .i64 wa) := by rw [eq]; exact g2
                  replace g3 : wz.cell? ⟨g0, i, none⟩ = some (.int .i64 q) := by rw [eq]; exact g3
                  clear eq
                  go_wp2_with (at_builtin; refine wpList_append_own _ rfl _ _ 24 rfl w.heap.size 3 i0 (.int .i64 0) 1 8 Try.underlying24 hi hz0 hz1 hz2 rfl (by decide) _ _ _ rfl ((unhide HO).alloc _) ⟨wz.heap.size, 0, none⟩ 1 1 [.int .i64 x] rfl rfl ?c1 ?c2 ?c3 ?c4 ?c5 ?_)
                  case c1 => exact cell_one_new _ _ _
                  case c2 => intro u hu; simp at hu; subst hu; rfl
                  case c3 => unfold maxLen; omega
                  case c4 => omega
                  case c5 => simp; omega
                  intro v' w2 hown' hgrow _
                  have HO3 := hide hown'
                  have HB3 := hide (((unhide HB0).alloc (by omega) _).grown hgrow (by simp; omega) (fun g hg => ((unhide HO).lt g hg).1))
                  clear hown' hgrow HO HB0
                  go_wp2
                  go_roundg (L.length - (k + 1))
                  case measure => omega
                  case rel => exact ⟨k + 1, by omega, rfl, by go_num, by rw [unhide EF, show ((out ++ [wa]) ++ [x]).length = m + 1 by simp [unhide HM], ints_snoc]; exact unhide HO3, unhide HB3⟩
                · skip
                  have da : decide (q < wa) = false := decide_eq_false ha
                  have dc : decide (wa < x) = false := decide_eq_false hc
                  have dd : (decide (q < wa) == decide (wa < x)) = true := by rw [da, dc]; rfl
                  rw [unhide HTU, show (decide (q < wa) != decide (wa < x)) = false by simp [ha, hc], if_neg (by simp)] at EF
                  clear HTU
                  go_wp2
                  go_quiet (fail)
                  obtain ⟨wq, eq⟩ : ∃ x, x = wr.drewN nq := ⟨_, rfl⟩
                  rw [← eq]
                  replace HO : Hid (wq.ownsRow w.heap.size 3 1 (.slice (some ⟨g0, 0, none⟩) m cap0) m (ints (out ++ [wa]))) := by show World.ownsRow _ _ _ _ _ _ _; rw [eq]; exact unhide HO
                  replace HB0 : Hid (Below w.heap.size w wq) := by show Below _ _ _; rw [eq]; exact below_drewN (unhide HB0) nq
                  have hsq : w.heap.size ≤ wq.heap.size := (unhide HB0).size
                  replace g1 : wq.cell? ⟨p, o + k, none⟩ = some (.int .i64 x) := by rw [eq]; exact g1
                  replace g2 : wq.cell? ⟨g0, j, none⟩ = some (.int .i64 wa) := by rw [eq]; exact g2
                  replace g3 : wq.cell? ⟨g0, i, none⟩ = some (.int .i64 q) := by rw [eq]; exact g3
                  clear eq
                  go_wp2
                  go_quiet (fail)
                  obtain ⟨wz, eq⟩ : ∃ x, x = wq.drewN nq := ⟨_, rfl⟩
                  rw [← eq]
                  replace HO : Hid (wz.ownsRow w.heap.size 3 1 (.slice (some ⟨g0, 0, none⟩) m cap0) m (ints (out ++ [wa]))) := by show World.ownsRow _ _ _ _ _ _ _; rw [eq]; exact unhide HO
                  replace HB0 : Hid (Below w.heap.size w wz) := by show Below _ _ _; rw [eq]; exact below_drewN (unhide HB0) nq
                  have hsz2 : w.heap.size ≤ wz.heap.size := (unhide HB0).size
                  replace g1 : wz.cell? ⟨p, o + k, none⟩ = some (.int .i64 x) := by rw [eq]; exact g1
                  replace g2 : wz.cell? ⟨g0, j, none⟩ = some (.int .i64 wa) := by rw [eq]; exact g2
                  replace g3 : wz.cell? ⟨g0, i, none⟩ = some (.int .i64 q) := by rw [eq]; exact g3
                  clear eq
                  have f1 : wz.frozen? ⟨g0, j, none⟩ = false := by
                    rcases (unhide HO).2 with ⟨hv, _⟩ | ⟨g', cap', cur, hv, hg, hh, _⟩
                    · cases hv
                    · simp only [Value.slice.injEq, Option.some.injEq, Addr.mk.injEq, and_true, true_and] at hv
                      obtain ⟨rfl, rfl⟩ := hv
                      simp [World.frozen?, hh]
                  have HG : Hid (w.heap.size ≤ g0) := by
                    rcases (unhide HO).2 with ⟨hv, _⟩ | ⟨g', cap', cur, hv, hg, hh, _⟩
                    · cases hv
                    · simp only [Value.slice.injEq, Option.some.injEq, Addr.mk.injEq, and_true, true_and] at hv
                      obtain ⟨rfl, rfl⟩ := hv
                      exact hg
                  have HO3 := hide (ownsRow_set (unhide HO) j (.int .i64 x))
                  rw [unhide HJ, snoc_set, ← unhide HJ] at HO3
                  have HB3 := hide ((unhide HB0).setCell (p := ⟨g0, j, none⟩) (unhide HG) (.int .i64 x))
                  clear HO HB0 HG
                  go_wp2
                  go_roundg (L.length - (k + 1))
                  case measure => omega
                  case rel => exact ⟨k + 1, by omega, rfl, by go_num, by rw [unhide EF, show (out ++ [x]).length = m by simp [unhide HM]]; exact unhide HO3, unhide HB3⟩
      · have hkk : k = L.length := by omega
        subst hkk
        obtain ⟨hsl, a', c', rfl⟩ := ownsRow_ownSl hO
        have HSL := hide hsl
        clear hO hsl
        go_wp2
        go_ret
        refine ⟨_, _, _, rfl, ?_, hB0⟩
        rw [unhide HF]
        exact unhide HSL

end Go.Proofs.Ytliodmahbdmcbaa
