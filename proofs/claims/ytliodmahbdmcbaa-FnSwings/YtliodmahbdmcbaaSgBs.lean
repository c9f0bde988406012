/- The contract of the specification's Shear2. -/
import Derived.Test.YtliodmahbdmcbaaSgB
namespace Go.Proofs.Ytliodmahbdmcbaa
open Go.RowKit

theorem ownsRow_some {w : World} {base n : Nat} {e : TypeId} {v : Value} {xs : List Value} (h : w.ownsRow base e 1 v (n + 1) xs) : ∃ g cap, v = .slice (some ⟨g, 0, none⟩) (n + 1) cap := by
  obtain ⟨_, h2⟩ := h
  rcases h2 with ⟨_, h0⟩ | ⟨g, cap, cur, rfl, r⟩
  · omega
  · exact ⟨g, cap, rfl⟩

/-- A new list of one number is the call's own. -/
theorem ownsRow_one (w : World) (x : Int) : (w.alloc (.cells #[.int .i64 x] 3)).ownsRow w.heap.size 3 1 (.slice (some ⟨w.heap.size, 0, none⟩) 1 1) 1 (ints [x]) :=
  ⟨rfl, Or.inr ⟨w.heap.size, 1, #[.int .i64 x], rfl, Nat.le_refl _, Go.Deep.blk_alloc_new _ _, Nat.le_refl _, by unfold maxLen; omega, rfl, rfl⟩⟩

set_option maxHeartbeats 1000000 in
theorem specShear2_bad (v v' : Value) (W B : List Int) (w : World) (h : IntsIn w v W) (h' : IntsIn w v' B) (hok : shOk W B = false) :
    Calls Try.prog 25 #[v, v'] w fun e w' => ∃ ao n cap, e = .returned (.tuple #[.slice ao n cap, .bool false]) ∧ OwnSl w.heap.size w' (.slice ao n cap) (shear W B) ∧ Below w.heap.size w w' := by
  have HV := hide h
  have HV' := hide h'
  obtain ⟨ao, cap, rfl, hl, hm, hc⟩ := h
  obtain ⟨ao', cap', rfl, hl', hm', hc'⟩ := h'
  unfold maxLen at hm hm'
  have HC := hide hc
  have HC' := hide hc'
  clear hc hc'
  have HF : Hid (shear W B = []) := by show _ = _; simp [shear, hok]
  have bad : ∀ V, OwnSl w.heap.size V (.slice (some ⟨w.heap.size, 0, none⟩) 0 0) (shear W B) := fun V => by
    rw [unhide HF]
    exact ⟨_, 0, rfl, Nat.le_refl _, Nat.zero_le _, fun h => absurd rfl h⟩
  have HBad := hide bad
  clear bad HF
  by_cases h1 : W.length = B.length
  · have e1 : ((W.length : Int) != (B.length : Int)) = false := by simp; omega
    by_cases h2 : W.length ≤ 40
    · have h3 : (W.all fun x => inB x 0 1000000) = false ∨ (B.all fun x => inB x 0 2000000) = false := by
        rw [shOk] at hok
        simp only [decide_eq_true h1, decide_eq_true h2, Bool.true_and, Bool.and_eq_false_iff] at hok
        exact hok
      clear hok h1
      have H3 := hide (l3All_any _ W 0 1000000 w (unhide HV))
      have H4 := hide (l3All_any _ B 0 2000000 w (unhide HV'))
      cases e3 : (W.all fun x => inB x 0 1000000)
      case false =>
        rw [e3] at H3
        clear e3 h3 H4
        go_enter Try.func25, Try.ntmps25
        go_wp2_with (first | (go_at_call 55; refine (unhide H3).mono ?_; rintro e w' ⟨rfl, rfl⟩; clear H3) | (go_at_call 55; refine (unhide H4).mono ?_; rintro e w' ⟨rfl, rfl⟩; clear H4))
        refine bodyPost_ret (v := .tuple #[.slice (some ⟨w.heap.size, 0, none⟩) 0 0, .bool false]) (by simp [results, Try.results25, go_sem]) rfl ⟨_, _, _, rfl, unhide HBad _, Below.alloc1 _ _⟩
      case true =>
        have e4 : (B.all fun x => inB x 0 2000000) = false := by rw [e3] at h3; simpa using h3
        rw [e3] at H3
        rw [e4] at H4
        clear e3 e4 h3
        go_enter Try.func25, Try.ntmps25
        go_wp2_with (first | (go_at_call 55; refine (unhide H3).mono ?_; rintro e w' ⟨rfl, rfl⟩; clear H3) | (go_at_call 55; refine (unhide H4).mono ?_; rintro e w' ⟨rfl, rfl⟩; clear H4))
        refine bodyPost_ret (v := .tuple #[.slice (some ⟨w.heap.size, 0, none⟩) 0 0, .bool false]) (by simp [results, Try.results25, go_sem]) rfl ⟨_, _, _, rfl, unhide HBad _, Below.alloc1 _ _⟩
    · clear hok
      go_enter Try.func25, Try.ntmps25
      go_wp2
      refine bodyPost_ret (v := .tuple #[.slice (some ⟨w.heap.size, 0, none⟩) 0 0, .bool false]) (by simp [results, Try.results25, go_sem]) rfl ⟨_, _, _, rfl, unhide HBad _, Below.alloc1 _ _⟩
  · have e1 : ((W.length : Int) != (B.length : Int)) = true := by simp; omega
    clear hok h1
    go_enter Try.func25, Try.ntmps25
    go_wp2
    refine bodyPost_ret (v := .tuple #[.slice (some ⟨w.heap.size, 0, none⟩) 0 0, .bool false]) (by simp [results, Try.results25, go_sem]) rfl ⟨_, _, _, rfl, unhide HBad _, Below.alloc1 _ _⟩

set_option maxHeartbeats 1000000 in
theorem specShear2_good (v v' : Value) (W B : List Int) (w : World) (h : IntsIn w v W) (h' : IntsIn w v' B) (hok : shOk W B = true) :
    Calls Try.prog 25 #[v, v'] w fun e w' => ∃ ao n cap, e = .returned (.tuple #[.slice ao n cap, .bool true]) ∧ OwnSl w.heap.size w' (.slice ao n cap) (shear W B) ∧ Below w.heap.size w w' := by
  have HV := hide h
  have HV' := hide h'
  obtain ⟨ao, cap, rfl, hl, hm, hc⟩ := h
  obtain ⟨ao', cap', rfl, hl', hm', hc'⟩ := h'
  unfold maxLen at hm hm'
  have HC := hide hc
  have HC' := hide hc'
  clear hc hc'
  have HF : Hid (shear W B = (List.range (W.length + 1)).map (shAt W B)) := by show _ = _; simp [shear, hok]
  have hR := shOk_r hok
  have H3 := hide (l3All_any _ W 0 1000000 w (unhide HV))
  have H4 := hide (l3All_any _ B 0 2000000 w (unhide HV'))
  simp only [shOk, Bool.and_eq_true] at hok
  rw [hok.1.2] at H3
  rw [hok.2] at H4
  clear hok
  have hlen := hR.len
  have HBL := hide hR.same
  have e1 : ((W.length : Int) != (B.length : Int)) = false := by have := unhide HBL; simp; omega
  have HR := hide hR
  clear hR
  go_enter Try.func25, Try.ntmps25
  go_wp2_with (first | (go_at_call 55; refine (unhide H3).mono ?_; rintro e w' ⟨rfl, rfl⟩; clear H3) | (go_at_call 55; refine (unhide H4).mono ?_; rintro e w' ⟨rfl, rfl⟩; clear H4))
  go_loopg [6, 7] W.length (fun g ov i wr => ∃ k : Nat, k ≤ W.length ∧ g = W.length - k ∧ i = .int .i64 k ∧ wr.ownsRow w.heap.size 3 1 ov (k + 1) (ints ((List.range (k + 1)).map (shAt W B))) ∧ Below w.heap.size w wr)
  case atStart => exact ⟨0, Nat.zero_le _, rfl, rfl, ownsRow_one w 0, Below.alloc1 _ _⟩
  case round =>
    obtain ⟨k, hk, rfl, rfl, hO, hB0⟩ := hrel
    by_cases hkn : k < W.length
    · obtain ⟨p, o, rfl, hcell⟩ := unhide HC k hkn
      obtain ⟨p', o', rfl, hcell'⟩ := unhide HC' k (by rw [unhide HBL]; exact hkn)
      have g1 := (hB0.cell (lt_of_cell hcell)).trans hcell
      have g2 := (hB0.cell (lt_of_cell hcell')).trans hcell'
      obtain ⟨g0, cap0, rfl⟩ := ownsRow_some hO
      have hI := (ownsRow_ownSl hO).1.intsIn
      obtain ⟨_, _, e0, g3⟩ := intAt hI (show k < k + 1 by omega)
      simp only [Option.some.injEq, Addr.mk.injEq, and_true] at e0
      obtain ⟨rfl, rfl⟩ := e0
      have ek : ((List.range (k + 1)).map (shAt W B)).getD k 0 = shAt W B k := by simp [List.getD]
      rw [ek, Nat.zero_add] at g3
      have bs := shAt_bd (unhide HR) (show k ≤ W.length by omega)
      have bw := (unhide HR).w k hkn
      have bb := (unhide HR).b k hkn
      have ES := hide (shAt_succ W B k)
      have bl : (k : Int) < B.length := by rw [unhide HBL]; omega
      have hsz := hB0.size
      obtain ⟨m, hmk⟩ : ∃ m : Nat, m = k + 1 := ⟨_, rfl⟩
      rw [← hmk] at hO ⊢
      have bm : (k : Int) < m := by omega
      have bm2 : m ≤ 41 := by omega
      have HM := hide hmk
      clear hmk
      have HO := hide hO
      have HB0 := hide hB0
      have ER := hide (range_snoc (shAt W B) (k + 1))
      clear hcell hcell' hO hB0 hI ek
      generalize shAt W B (k + 1) = t at *
      generalize shAt W B k = s at *
      generalize W.getD k 0 = x at *
      generalize B.getD k 0 = y at *
      have et : t = s + 2 * x - y := by have := unhide ES; omega
      clear ES
      subst et
      obtain ⟨bs1, bs2⟩ := bs
      obtain ⟨bw1, bw2⟩ := bw
      obtain ⟨bb1, bb2⟩ := bb
      obtain ⟨i0, hi, hz0, hz1, hz2⟩ := info_parts Try.info3
      have w1' : IntKind.i64.wrap (2 * x) = 2 * x := by rw [IntKind.wrap_i64]; omega
      have w2' : IntKind.i64.wrap (s + 2 * x) = s + 2 * x := by rw [IntKind.wrap_i64]; omega
      have w3' : IntKind.i64.wrap (s + 2 * x - y) = s + 2 * x - y := by rw [IntKind.wrap_i64]; omega
      have d1 := show wr.drew.cell? _ = _ from g1
      have d2 := show wr.drew.cell? _ = _ from g2
      have d3 := show wr.drew.cell? _ = _ from g3
      go_wp2
      go_region_law (first | (refine step_append_lies _ (by rfl) (.tmp 36) (.tmp 52) 24 (by rfl) w.heap.size 3 i0 (.int .i64 0) 1 8 Try.underlying24 hi hz0 hz1 hz2 rfl (by decide) _ m _ (by rfl) ((unhide HO).alloc _).drew ⟨wr.heap.size, 0, none⟩ 1 1 [.int .i64 (s + 2 * x - y)] (by rfl) (by rfl) (cell_one_new _ _ _) (by simp [Value.oneCell']) (by omega) (by unfold maxLen; omega) (by omega) (by simp; omega) (wr.heap.size + 1) (by simp) ?_; intro g4 cap4 w2 hown' hgrow hat hlt; have HO3 := hide hown'; have HB3 := hide (((unhide HB0).alloc (by omega) _).drew.grown hgrow (by simp; omega) (fun g hg => ((unhide HO).lt g hg).1)); clear hown' hgrow hat))
      all_goals (go_wp2; go_roundg (W.length - (k + 1)))
      all_goals first | omega | exact ⟨k + 1, by omega, rfl, by go_num, by have e := unhide HM; subst e; rw [unhide ER]; exact unhide HO3, unhide HB3⟩
    · have hkk : k = W.length := by omega
      subst hkk
      obtain ⟨g0, cap0, rfl⟩ := ownsRow_some hO
      have HO := hide hO
      clear hO
      go_wp2
      refine bodyPost_ret (v := .tuple #[.slice (some ⟨g0, 0, none⟩) (W.length + 1) cap0, .bool true]) (by simp [results, Try.results25, go_sem]) rfl ⟨_, _, _, rfl, ?_, hB0⟩
      rw [unhide HF]
      exact (ownsRow_ownSl (unhide HO)).1

theorem specShear2_any (v v' : Value) (W B : List Int) (w : World) (h : IntsIn w v W) (h' : IntsIn w v' B) :
    Calls Try.prog 25 #[v, v'] w fun e w' => ∃ ao n cap, e = .returned (.tuple #[.slice ao n cap, .bool (shOk W B)]) ∧ OwnSl w.heap.size w' (.slice ao n cap) (shear W B) ∧ Below w.heap.size w w' := by
  cases hok : shOk W B with
  | false => exact specShear2_bad v v' W B w h h' hok
  | true => exact specShear2_good v v' W B w h h' hok

end Go.Proofs.Ytliodmahbdmcbaa
