/- The contract of the specification's Bending4; both sides' Balanced. -/
import Derived.Test.YtliodmahbdmcbaaSgC
namespace Go.Proofs.Ytliodmahbdmcbaa
open Go.RowKit

set_option maxHeartbeats 1000000 in
theorem specBending4_any (v v' : Value) (W B : List Int) (st : Int) (w : World) (h : IntsIn w v W) (h' : IntsIn w v' B) :
    Calls Try.prog 30 #[v, v', .int .i64 st] w fun e w' => ∃ ao n cap, e = .returned (.tuple #[.slice ao n cap, .bool (beOk W B st)]) ∧ OwnSl w.heap.size w' (.slice ao n cap) (bend W B st) ∧ Below w.heap.size w w' := by
  have HV := hide h
  have HV' := hide h'
  obtain ⟨ao, cap, rfl, hl, hm, hc⟩ := h
  obtain ⟨ao', cap', rfl, hl', hm', hc'⟩ := h'
  unfold maxLen at hm hm'
  clear hc hc'
  go_enter Try.func30, Try.ntmps30
  go_wp2_with fail
  refine (specShear2_any _ _ W B _ (unhide HV) (unhide HV')).mono ?_
  rintro e w1 ⟨a1, n1, c1, rfl, ho, hb⟩
  have HO := hide ho
  have HW := hide hb
  have hz := hb.size
  clear ho hb
  cases hok : beOk W B st with
  | false =>
    have HF : Hid (bend W B st = []) := by show _ = _; simp [bend, hok]
    have HK := hide hok
    simp only [beOk, Bool.and_eq_false_iff] at hok
    cases h1 : shOk W B <;> cases h2 : inB st 1 100
    case true.true => rw [h1, h2] at hok; simp at hok
    all_goals
      clear hok
      go_wp2_with (go_at_call 59; refine (l1In_any _ _ _ _).mono ?_; rintro e w9 ⟨rfl, h9⟩; have h8 := h9.symm; subst h8; clear h9)
      refine bodyPost_ret (v := .tuple #[.slice (some ⟨_, 0, none⟩) 0 0, .bool false]) (by simp [results, Try.results30, go_sem]; rfl) rfl ⟨_, 0, 0, by rw [unhide HK], ?_, Below.step (unhide HW) (Below.alloc1 _ _)⟩
      rw [unhide HF]
      exact ⟨_, 0, rfl, Nat.le_refl _, Nat.zero_le _, fun h => absurd rfl h⟩
  | true =>
    have HF : Hid (bend W B st = (List.range (W.length + 1)).map (beAt W B st)) := by show _ = _; simp [bend, hok]
    have HK := hide hok
    have hR := (beOk_r hok).1
    have hst := (beOk_r hok).2
    simp only [beOk, Bool.and_eq_true] at hok
    obtain ⟨hsh, hin⟩ := hok
    obtain ⟨hn, g, rfl, hg, hcells⟩ := shear_cells (unhide HO) hsh
    have HN := hide hn
    have HC := hide hcells
    have hn1 : W.length < n1 := by omega
    have hn2 : n1 ≤ 41 := by have := hR.len; omega
    have hn3 : n1 ≤ W.length + 1 := by omega
    clear hn hcells HO
    have HR := hide hR
    have hlen := hR.len
    clear hR
    go_wp2_with (go_at_call 59; refine (l1In_any _ _ _ _).mono ?_; rintro e w9 ⟨rfl, h9⟩; have h8 := h9.symm; subst h8; clear h9)
    clear hsh hin
    go_loopg [10, 11] W.length (fun g ov i wr => ∃ k : Nat, k ≤ W.length ∧ g = W.length - k ∧ i = .int .i64 k ∧ wr.ownsRow w1.heap.size 3 1 ov (k + 1) (ints ((List.range (k + 1)).map (beAt W B st))) ∧ Below w1.heap.size w1 wr)
    case atStart => exact ⟨0, Nat.zero_le _, rfl, rfl, ownsRow_one w1 0, Below.alloc1 _ _⟩
    case round =>
      obtain ⟨k, hk, rfl, rfl, hO, hB0⟩ := hrel
      by_cases hkn : k < W.length
      · have g1 := (hB0.cell hg).trans (unhide HC k (by omega))
        have g2 := (hB0.cell hg).trans (unhide HC (k + 1) (by omega))
        obtain ⟨g0, cap0, rfl⟩ := ownsRow_some hO
        have hI := (ownsRow_ownSl hO).1.intsIn
        obtain ⟨_, _, e0, g3⟩ := intAt hI (show k < k + 1 by omega)
        simp only [Option.some.injEq, Addr.mk.injEq, and_true] at e0
        obtain ⟨rfl, rfl⟩ := e0
        have ek : ((List.range (k + 1)).map (beAt W B st)).getD k 0 = beAt W B st k := by simp [List.getD]
        rw [ek, Nat.zero_add] at g3
        have n6 : (0 : Int) ≤ (k : Int) + 1 := by omega
        have bk : (k : Int) < n1 := by omega
        have bk1 : (k : Int) + 1 < n1 := by omega
        have bk2 : IntKind.i64.wrap ((k : Int) + 1) = (k : Int) + 1 := by rw [IntKind.wrap_i64]; omega
        have bs := shAt_bd (unhide HR) (show k ≤ W.length by omega)
        have bs' := shAt_bd (unhide HR) (show k + 1 ≤ W.length by omega)
        have bb := beAt_bd (unhide HR) hst (show k ≤ W.length by omega)
        have bp := beStep_bd (unhide HR) hst hkn
        have ES := hide (beAt_succ W B st k)
        have ER := hide (range_snoc (beAt W B st) (k + 1))
        have hsz := hB0.size
        obtain ⟨m, hmk⟩ : ∃ m : Nat, m = k + 1 := ⟨_, rfl⟩
        rw [← hmk] at hO ⊢
        have bm : (k : Int) < m := by omega
        have bm2 : m ≤ 41 := by omega
        have HM := hide hmk
        clear hmk
        have HO := hide hO
        have HB0 := hide hB0
        clear hO hB0 hI ek
        generalize beAt W B st (k + 1) = t at *
        generalize beAt W B st k = q at *
        generalize shAt W B (k + 1) = s' at *
        generalize shAt W B k = s at *
        have et : t = q + st * (s + s') := unhide ES
        clear ES
        subst et
        obtain ⟨bs1, bs2⟩ := bs
        obtain ⟨bw1, bw2⟩ := bs'
        obtain ⟨bb1, bb2⟩ := bb
        obtain ⟨bp1, bp2⟩ := bp
        have w1' : IntKind.i64.wrap (s + s') = s + s' := by rw [IntKind.wrap_i64]; omega
        have w2' : IntKind.i64.wrap (st * (s + s')) = st * (s + s') := by rw [IntKind.wrap_i64]; omega
        have w3' : IntKind.i64.wrap (q + st * (s + s')) = q + st * (s + s') := by rw [IntKind.wrap_i64]; omega
        obtain ⟨i0, hi, hz0, hz1, hz2⟩ := info_parts Try.info3
        have d1 := show wr.drew.cell? _ = _ from g1
        have d2 := show wr.drew.cell? _ = _ from g2
        have d3 := show wr.drew.cell? _ = _ from g3
        go_wp2
        go_region_law (first | (refine step_append_lies _ (by rfl) (.tmp 34) (.tmp 52) 24 (by rfl) w1.heap.size 3 i0 (.int .i64 0) 1 8 Try.underlying24 hi hz0 hz1 hz2 rfl (by decide) _ m _ (by rfl) ((unhide HO).alloc _).drew ⟨wr.heap.size, 0, none⟩ 1 1 [.int .i64 (q + st * (s + s'))] (by rfl) (by rfl) (cell_one_new _ _ _) (by simp [Value.oneCell']) (by omega) (by unfold maxLen; omega) (by omega) (by simp; omega) (wr.heap.size + 1) (by simp) ?_; intro g4 cap4 w2 hown' hgrow hat hlt; have HO3 := hide hown'; have HB3 := hide (((unhide HB0).alloc (by omega) _).drew.grown hgrow (by simp; omega) (fun g hg => ((unhide HO).lt g hg).1)); clear hown' hgrow hat))
        all_goals (go_wp2; go_roundg (W.length - (k + 1)))
        all_goals first | omega | exact ⟨k + 1, by omega, rfl, by go_num, by have e := unhide HM; subst e; rw [unhide ER]; exact unhide HO3, unhide HB3⟩
      · have hkk : k = W.length := by omega
        subst hkk
        obtain ⟨g0, cap0, rfl⟩ := ownsRow_some hO
        have HO := hide hO
        clear hO
        go_wp2
        refine bodyPost_ret (v := .tuple #[.slice (some ⟨g0, 0, none⟩) (W.length + 1) cap0, .bool true]) (by simp [results, Try.results30, go_sem]) rfl ⟨_, _, _, by rw [unhide HK], ?_, Below.step (unhide HW) hB0⟩
        rw [unhide HF]
        exact (ownsRow_ownSl (unhide HO)).1.mono hz

end Go.Proofs.Ytliodmahbdmcbaa
