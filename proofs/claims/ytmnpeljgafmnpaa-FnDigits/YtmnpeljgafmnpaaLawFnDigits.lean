/- FnDigits: whatever the bytes, a name of four capitals and six digits with its digit is a name; with another last digit it is none, with another of the six digits at most where its last digit is 0. Written by wip/mkdg.py. -/
import Derived.Test.YtmnpeljgafmnpaaOwRw
import Derived.Test.YtmnpeljgafmnpaaAtFix
import Derived.Deep.RegionHeld3
import Derived.Deep.DeepMust
namespace Go.Proofs.Ytmnpeljgafmnpaa
open Go.RowKit

theorem lit10 (w : World) : M8 (w.alloc (.cells #[.int .u8 65, .int .u8 66, .int .u8 67, .int .u8 68, .int .u8 48, .int .u8 48, .int .u8 48, .int .u8 48, .int .u8 48, .int .u8 48] 5 (10, 11))) w.heap.size 10 10 [65, 66, 67, 68, 48, 48, 48, 48, 48, 48] :=
  m8_lit w [65, 66, 67, 68, 48, 48, 48, 48, 48, 48] 10 10 11 rfl (Or.inl (Nat.le_refl _)) (by unfold maxLen; omega)
theorem right0 : Right10 [65, 66, 67, 68, 48, 48, 48, 48, 48, 48] := by
  refine ⟨rfl, fun r hr => ?_, fun r hr hr2 => ?_⟩
  · have : r = 0 ∨ r = 1 ∨ r = 2 ∨ r = 3 := by omega
    rcases this with h | h | h | h <;> subst h <;> decide
  · have : r = 4 ∨ r = 5 ∨ r = 6 ∨ r = 7 ∨ r = 8 ∨ r = 9 := by omega
    rcases this with h | h | h | h | h | h <;> subst h <;> decide
set_option maxRecDepth 100000 in
theorem enterAt (vs : Array Value) (w : World) : (callFunc 13 vs).run Try.prog w = .ok (.enter 13 vs) w := by kernel_rfl
set_option maxRecDepth 100000 in
theorem enterBn (vs : Array Value) (w : World) : (callFunc 16 vs).run Try.prog w = .ok (.enter 16 vs) w := by kernel_rfl
theorem wrap8 {x : Int} (h0 : 0 ≤ x) (h1 : x < 256) : IntKind.u8.wrap x = x := by rw [IntKind.wrap_u8']; omega

set_option maxRecDepth 10000 in
set_option maxHeartbeats 6400000 in
theorem fnDigits_any (v : Value) (nb : Nat) (w : World) (h : BytesIn w.heap.size w v nb) :
    Calls Try.prog 3 #[v] w fun e w' => e = .returned (.bool true) ∧ Below w.heap.size w w' := by
  have HB := hide h
  obtain ⟨vao, vcap, rfl, hl, hm, _⟩ := h
  unfold maxLen at hm
  have HBIG := hide (big_any vao nb vcap w)
  cases hbig : decide ((1048576 : Int) < (nb : Int)) with
  | true =>
    rw [hbig] at HBIG
    go_enter Try.func3, Try.ntmps3
    go_wp2_with fail
    refine (unhide HBIG).mono ?_
    rintro e w' ⟨rfl, rfl⟩
    go_wp2
    go_ret
    exact ⟨rfl, Below.refl _ _⟩
  | false =>
  rw [hbig] at HBIG
  have hnb : nb ≤ 1048576 := by rw [decide_eq_false_iff_not] at hbig; omega
  have HAT := hide fun k hk => at_fix _ nb k w (unhide HB) hnb hk
  clear hbig HB
  go_enter Try.func3, Try.ntmps3
  go_wp2_with fail
  refine (unhide HBIG).mono ?_
  rintro e w' ⟨rfl, h9⟩
  subst h9
  clear HBIG
  have HO := hide (lit10 w)
  have HW := hide (Below.alloc1 w (.cells #[.int .u8 65, .int .u8 66, .int .u8 67, .int .u8 68, .int .u8 48, .int .u8 48, .int .u8 48, .int .u8 48, .int .u8 48, .int .u8 48] 5 (10, 11)))
  have hcs := run_conv_lit w #[.int .u8 65, .int .u8 66, .int .u8 67, .int .u8 68, .int .u8 48, .int .u8 48, .int .u8 48, .int .u8 48, .int .u8 48, .int .u8 48] 10 10
  simp only [List.size_toArray, List.length_cons, List.length_nil, Nat.zero_add, Nat.reduceAdd] at hcs
  go_wp2
  clear hcs
  go_loopg [4] 4 (fun g iv wr => ∃ (k : Nat) (X : List Int), k ≤ 4 ∧ g = 4 - k ∧ iv = .int .i64 k ∧ Hid (Right10 X) ∧ Hid (M8 wr w.heap.size 10 10 X) ∧ Hid (Below w.heap.size w wr))
  case atStart => exact ⟨0, _, by omega, rfl, rfl, right0, unhide HO, unhide HW⟩
  case round =>
    clear HO HW
    obtain ⟨k, X, hk, rfl, rfl, HR, HO, HW⟩ := hrel
    by_cases hk4 : k < 4
    · obtain ⟨y, hy0, hy1, hY⟩ := unhide HAT k (by omega)
      have HY := hide (hY _ (unhide HW))
      have hki : (k : Int) < 4 := by omega
      have c0 := (unhide HO).cell (i := k) (by omega)
      have f0 := (unhide HO).frozen (i := k) (by omega)
      have q1 : IntKind.i64.wrap (65 + y % 26) = 65 + y % 26 := by rw [IntKind.wrap_i64]; omega
      have q2 : IntKind.u8.wrap (65 + y % 26) = 65 + y % 26 := wrap8 (by omega) (by omega)
      have HR1 := hide ((unhide HR).set_cap (x := 65 + y % 26) hk4 (by omega) (by omega))
      have HO1 := hide ((unhide HO).set (i := k) (by omega) (65 + y % 26))
      have HW1 := hide (below_set (unhide HW) (Nat.le_refl _) k (.int .u8 (65 + y % 26)))
      clear hY
      generalize X.getD k 0 = x0 at *
      go_wp2_with fail
      refine (unhide HY).mono ?_
      rintro e w1 ⟨rfl, rfl⟩
      clear HY
      go_wp2
      go_roundg (4 - (k + 1))
      case measure => omega
      case rel => exact ⟨k + 1, _, by omega, rfl, by go_num, unhide HR1, unhide HO1, unhide HW1⟩
    · have hki : ¬ (k : Int) < 4 := by omega
      clear hk4 hk
      go_wp2
      go_loopg [5] 6 (fun g iv wr => ∃ (k : Nat) (X : List Int), 4 ≤ k ∧ k ≤ 10 ∧ g = 10 - k ∧ iv = .int .i64 k ∧ Hid (Right10 X) ∧ Hid (M8 wr w.heap.size 10 10 X) ∧ Hid (Below w.heap.size w wr))
      case atStart => exact ⟨4, _, by omega, by omega, rfl, rfl, unhide HR, unhide HO, unhide HW⟩
      case round =>
        clear HO HW HR
        obtain ⟨k, X, hk, hk', rfl, rfl, HR, HO, HW⟩ := hrel
        by_cases hk10 : k < 10
        · obtain ⟨y, hy0, hy1, hY⟩ := unhide HAT k (by omega)
          have HY := hide (hY _ (unhide HW))
          have hki : (k : Int) < 10 := by omega
          have c0 := (unhide HO).cell (i := k) (by omega)
          have f0 := (unhide HO).frozen (i := k) (by omega)
          have q1 : IntKind.i64.wrap (48 + y % 10) = 48 + y % 10 := by rw [IntKind.wrap_i64]; omega
          have q2 : IntKind.u8.wrap (48 + y % 10) = 48 + y % 10 := wrap8 (by omega) (by omega)
          have HR1 := hide ((unhide HR).set_dig (x := 48 + y % 10) hk hk10 (by omega) (by omega))
          have HO1 := hide ((unhide HO).set (i := k) (by omega) (48 + y % 10))
          have HW1 := hide (below_set (unhide HW) (Nat.le_refl _) k (.int .u8 (48 + y % 10)))
          clear hY
          generalize X.getD k 0 = x0 at *
          go_wp2_with fail
          refine (unhide HY).mono ?_
          rintro e w1 ⟨rfl, rfl⟩
          clear HY
          go_wp2
          go_roundg (10 - (k + 1))
          case measure => omega
          case rel => exact ⟨k + 1, _, by omega, by omega, rfl, by go_num, unhide HR1, unhide HO1, unhide HW1⟩
        · have hki : ¬ (k : Int) < 10 := by omega
          have hX := (unhide HR).len
          have E2 : Hid (bnB (strOfNums (X ++ [48 + cd (strOfNums X)])) = true) := by show _ = _; have := cd_bd2 (unhide HR); rw [bn_str (unhide HR) (by omega) (by omega)]; simp
          have E3 : Hid (∀ m : Int, 0 ≤ m → m ≤ 8 → bnB (strOfNums (X ++ [48 + (cd (strOfNums X) + 1 + m) % 10])) = false) := fun m h0 h1 => by have := cd_bd2 (unhide HR); rw [bn_str (unhide HR) (by omega) (by omega)]; simp; omega
          have E4 : Hid (bnB (strOfNums X) = false) := bn_ten hX
          have E5 : Hid (∀ (r : Nat) (x : Int), 4 ≤ r → r < 10 → 48 ≤ x → x ≤ 57 → x ≠ X.getD r 0 → bnB (strOfNums (X.set r x ++ [48 + cd (strOfNums X)])) = true → cd (strOfNums X) = 0) := fun r x h4 h10 h0 h1 hne hb => by
            have := cd_bd2 (unhide HR)
            rw [bn_str ((unhide HR).set_dig h4 h10 h0 h1) (by omega) (by omega), decide_eq_true_eq] at hb
            exact digit_turn (unhide HR) h4 h10 h0 h1 hne (by omega)
          have hcd := cd_bd2 (unhide HR)
          have HC := hide fun V => implCheckDigit_any (strOfNums X) V
          have HC2 := hide fun V => specCheckDigit_any (strOfNums X) V
          have HBN := hide fun t V => implBoxName_any t V
          have hcv := (unhide HO).text 10
          clear hk10 hk hk' hX
          generalize cd (strOfNums X) = c at *
          obtain ⟨S, eS⟩ : ∃ S, S = strOfNums X := ⟨_, rfl⟩
          rw [← eS] at hcv HC HC2 E4
          have ES := hide eS
          clear eS
          obtain ⟨hc0, hc1⟩ := hcd
          go_wp2_with fail
          refine (unhide HC _).mono ?_
          rintro e w1 ⟨rfl, hb⟩
          have hbs := hb.size
          replace HW := hide (Below.step (unhide HW) hb)
          replace HO := hide ((unhide HO).below hb)
          have hcv := (unhide HO).text 10
          rw [← unhide ES] at hcv
          clear hb HC
          have d0 : decide (c < 0) = false := by simp; omega
          have d1 : decide (9 < c) = false := by simp; omega
          go_wp2_with fail
          refine (unhide HC2 _).mono ?_
          rintro e w2 ⟨rfl, rfl⟩
          clear HC2 hcv
          have q1 : IntKind.i64.wrap (48 + c) = 48 + c := by rw [IntKind.wrap_i64]; omega
          have q2 : IntKind.u8.wrap (48 + c) = 48 + c := wrap8 (by omega) (by omega)
          have HOa := hide ((unhide HO).below (Below.alloc1 w2 (.cells #[.int .u8 (48 + c)] 5)))
          have HWa := hide (Below.step (unhide HW) (Below.alloc1 w2 (.cells #[.int .u8 (48 + c)] 5)))
          have HGc : Hid ((w2.alloc (.cells #[.int .u8 (48 + c)] 5)).cell? ⟨w2.heap.size, 0, none⟩ = some (.int .u8 (48 + c))) := by show _ = _; simp
          clear HO HW
          go_wp2_with (at_builtin; go_must (refine wpList_app8 _ (by rfl) _ _ rfl w.heap.size 10 10 X rfl (unhide HOa) (by omega) w2.heap.size (48 + c) 1 rfl (unhide HGc) ?_); intro g1 cap1 w3 hM hK hat; have HW := hide (Below.step (unhide HWa) (kept_full hK)); have HO := hide ((unhide HOa).below (kept_full hK)); have hcv := hM.text cap1; simp only [Nat.reduceAdd] at hcv; clear hM hK hat HOa HWa HGc)
          refine (unhide HBN _ _).mono ?_
          rintro e w4 ⟨rfl, hb⟩
          rw [unhide E2]
          replace HW := hide (Below.step (unhide HW) hb)
          replace HO := hide ((unhide HO).below hb)
          clear hb hcv E2 d0 d1 hbs
          obtain ⟨y, hy0, hy1, hY⟩ := unhide HAT 12 (by omega)
          have HY := hide fun V hV => hY V hV
          clear hY
          obtain ⟨z, ez⟩ : ∃ z, z = (c + 1 + y % 9) % 10 := ⟨_, rfl⟩
          have E3z := hide (unhide E3 (y % 9) (by omega) (by omega))
          rw [← ez] at E3z
          have hz : 0 ≤ z ∧ z ≤ 9 := by omega
          have q3 : IntKind.i64.wrap (c + 1) = c + 1 := by rw [IntKind.wrap_i64]; omega
          have q4 : IntKind.i64.wrap (c + 1 + y % 9) = c + 1 + y % 9 := by rw [IntKind.wrap_i64]; omega
          have q5 : (c + 1 + y % 9) % 10 = z := ez.symm
          have q8 : y.tmod 9 = y % 9 := Int.tmod_eq_emod_of_nonneg hy0
          have q9 : (c + 1 + y % 9).tmod 10 = z := by rw [Int.tmod_eq_emod_of_nonneg (by omega)]; exact q5
          have q6 : IntKind.i64.wrap (48 + z) = 48 + z := by rw [IntKind.wrap_i64]; omega
          have q7 : IntKind.u8.wrap (48 + z) = 48 + z := wrap8 (by omega) (by omega)
          obtain ⟨hz0, hz1⟩ := hz
          clear ez E3
          obtain ⟨T, eT⟩ : ∃ T, T = strOfNums (X ++ [48 + z]) := ⟨_, rfl⟩
          rw [← eT] at E3z
          have ET := hide eT
          clear eT
          have HBT := hide fun V => unhide HBN T V
          rw [unhide E3z] at HBT
          have HBS := hide fun V => unhide HBN S V
          rw [unhide E4] at HBS
          go_wp2
          go_region_law (first | (refine step_fun2 (by rfl) 13 (.tmp 69) (.const (.int .i64 12)) #[22, 3] (by rfl) (.slice vao nb vcap) (.int .i64 12) (by rfl) (by rfl) (enterAt _ _) (.int .i64 y) (fun w' => w' = w4.drew) (unhide HY w4.drew (unhide HW).drew) ?_; rintro w5 rfl) | (refine step_app8 (by rfl) (.tmp 66) (.tmp 76) (by rfl) w.heap.size 10 10 X (by rfl) ((unhide HO).below (Below.alloc1 w4 (.cells #[.int .u8 (48 + z)] 5)).drew) (by omega) w4.heap.size (48 + z) 1 (by rfl) (by simp) ?_; intro g2 cap2 w6 hM hK hat; have HW6 := hide (Below.step (Below.step (unhide HW) (Below.alloc1 w4 (.cells #[.int .u8 (48 + z)] 5)).drew) (kept_full hK)); have HO6 := hide (((unhide HO).below (Below.alloc1 w4 (.cells #[.int .u8 (48 + z)] 5)).drew).below (kept_full hK)); have hcv := hM.text cap2; simp only [Nat.reduceAdd] at hcv; rw [← unhide ET] at hcv; clear hM hK hat) | (have xx := unhide HW6; clear xx; refine step_fun1 (by rfl) 16 (.tmp 78) #[9] (by rfl) (.string T) (by rfl) (enterBn _ _) (.bool false) (fun w' => Below w6.heap.size w6 w') (unhide HBT w6) ?_; intro w7 hb; have HW7 := hide (Below.step (unhide HW6) hb); have HO7 := hide ((unhide HO6).below hb); have hcv7 := (unhide HO7).text 10; rw [← unhide ES] at hcv7; clear hb HW6 HO6 hcv) | (have xx := unhide HW7; clear xx; refine step_fun1 (by rfl) 16 (.tmp 83) #[9] (by rfl) (.string S) (by rfl) (enterBn _ _) (.bool false) (fun w' => Below w7.heap.size w7 w') (unhide HBS w7) ?_; intro w8 hb; have HW8 := hide (Below.step (unhide HW7) hb); have HO8 := hide ((unhide HO7).below hb); clear hb HW7 HO7 hcv7))
          clear HY q3 q4 q5 q6 q7 q8 q9 HO HW ET E4 E3z HBT HBS hz0 hz1
          clear hy0 hy1
          obtain ⟨y13, hu0, hu1, hY13⟩ := unhide HAT 13 (by omega)
          have HY13 := hide (hY13 _ (unhide HW8))
          clear hY13
          go_wp2_with fail
          refine (unhide HY13).mono ?_
          rintro e w9 ⟨rfl, h9⟩
          have h9' := h9.symm
          subst h9'
          clear h9
          clear HY13
          obtain ⟨kk, ekk⟩ : ∃ kk : Nat, (4 + y13 % 6 : Int) = (kk : Int) := ⟨(4 + y13 % 6).toNat, by omega⟩
          have hkk4 : 4 ≤ kk := by omega
          have hkk : kk < 10 := by omega
          have p1 : IntKind.i64.wrap (4 + y13 % 6) = (kk : Int) := by rw [IntKind.wrap_i64]; omega
          have hkki : (kk : Int) < 10 := by omega
          have hxb := (unhide HR).dig kk hkk4 hkk
          have c0 := (unhide HO8).cell (i := kk) hkk
          have f0 := (unhide HO8).frozen (i := kk) hkk
          have HE5 := hide (fun x => unhide E5 kk x hkk4 hkk)
          obtain ⟨x0, ex0⟩ : ∃ x, x = X.getD kk 0 := ⟨_, rfl⟩
          rw [← ex0] at hxb c0 HE5
          obtain ⟨y14, hv0, hv1, hY14⟩ := unhide HAT 14 (by omega)
          have HY14 := hide fun V hV => hY14 V hV
          clear hY14 ex0 E5
          obtain ⟨a, ea⟩ : ∃ a, a = x0 - 48 := ⟨_, rfl⟩
          have r1 : IntKind.u8.wrap (x0 - 48) = a := by rw [IntKind.wrap_u8']; omega
          have ha : 0 ≤ a ∧ a ≤ 9 := by omega
          have r2 : IntKind.i64.wrap (a + 1) = a + 1 := by rw [IntKind.wrap_i64]; omega
          have r3 : IntKind.i64.wrap (a + 1 + y14 % 9) = a + 1 + y14 % 9 := by rw [IntKind.wrap_i64]; omega
          obtain ⟨z, ez⟩ : ∃ z, z = (a + 1 + y14 % 9) % 10 := ⟨_, rfl⟩
          have r4 : (a + 1 + y14 % 9).tmod 10 = z := by rw [Int.tmod_eq_emod_of_nonneg (by omega)]; exact ez.symm
          have r4' : (a + 1 + y14 % 9) % 10 = z := ez.symm
          have r5 : y14.tmod 9 = y14 % 9 := Int.tmod_eq_emod_of_nonneg hv0
          have hz : 0 ≤ z ∧ z ≤ 9 := by omega
          have r6 : IntKind.i64.wrap (48 + z) = 48 + z := by rw [IntKind.wrap_i64]; omega
          have r7 : IntKind.u8.wrap (48 + z) = 48 + z := wrap8 (by omega) (by omega)
          have r8 : IntKind.i64.wrap a = a := by rw [IntKind.wrap_i64]; omega
          have HE6 := hide (unhide HE5 (48 + z) (by omega) (by omega) (by omega))
          obtain ⟨a0, a1⟩ := ha
          obtain ⟨z0, z1⟩ := hz
          have HS8 := hide ((unhide HO8).set (i := kk) hkk (48 + z))
          have HWS := hide (below_set (unhide HW8) (Nat.le_refl _) kk (.int .u8 (48 + z)))
          have r0 : y13.tmod 6 = y13 % 6 := Int.tmod_eq_emod_of_nonneg hu0
          clear HE5 ea ez
          obtain ⟨xb0, xb1⟩ := hxb
          go_wp2
          go_region_law (refine step_fun2 (by rfl) 13 (.tmp 99) (.const (.int .i64 14)) #[22, 3] (by rfl) (.slice vao nb vcap) (.int .i64 14) (by rfl) (by rfl) (enterAt _ _) (.int .i64 y14) (fun w' => w' = w8.drew) (unhide HY14 w8.drew (unhide HW8).drew) ?_; rintro w10 rfl)
          all_goals
            have HWT := hide (unhide HWS).drew
            have HOT := hide (unhide HS8).drew
            clear HWS HS8 HO8 HW8 c0 f0 r0 r1 r2 r3 r4 r4' r5 r6 r7 r8 p1 hkki xb0 xb1 hu0 hu1 hv0 hv1 HY14 a0 a1 HR ES
            generalize X.set kk (48 + z) = X' at *
            generalize (w8.setCell ⟨w.heap.size, kk, none⟩ (.int .u8 (48 + z))).drew = V at *
            clear ekk
            have HOa := hide ((unhide HOT).below (Below.alloc1 V (.cells #[.int .u8 (48 + c)] 5)))
            have HWa := hide (Below.step (unhide HWT) (Below.alloc1 V (.cells #[.int .u8 (48 + c)] 5)))
            have HGc : Hid ((V.alloc (.cells #[.int .u8 (48 + c)] 5)).cell? ⟨V.heap.size, 0, none⟩ = some (.int .u8 (48 + c))) := by show _ = _; simp
            clear HOT HWT
            go_wp2_with (at_builtin; go_must (refine wpList_app8 _ (by rfl) _ _ rfl w.heap.size 10 10 X' rfl (unhide HOa) (by omega) V.heap.size (48 + c) 1 rfl (unhide HGc) ?_); intro g3 cap3 w12 hM hK hat; have HW := hide (Below.step (unhide HWa) (kept_full hK)); have hcv := hM.text cap3; simp only [Nat.reduceAdd] at hcv; clear hM hK hat HOa HWa HGc)
            refine (unhide HBN _ _).mono ?_
            rintro e w13 ⟨rfl, hb⟩
            replace HW := hide (Below.step (unhide HW) hb)
            clear hb hcv HBN
            cases hbn : bnB (strOfNums (X' ++ [48 + c])) with
            | false =>
              go_wp2
              go_ret
              exact ⟨rfl, unhide HW⟩
            | true =>
              have hc := unhide HE6 hbn
              subst hc
              go_wp2
              go_ret
              exact ⟨rfl, unhide HW⟩

end Go.Proofs.Ytmnpeljgafmnpaa
