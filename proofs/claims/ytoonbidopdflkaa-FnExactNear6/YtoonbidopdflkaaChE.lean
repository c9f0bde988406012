/- Contract of the specification's Near6. -/
import Derived.Test.YtoonbidopdflkaaChD
import Derived.Deep.DeepMust
namespace Go.Proofs.Ytoonbidopdflkaa
open Go.RowKit

def nrAt (f : FeatureT) (x y : Int) : Int := ((f.2.2.1 - x).natAbs : Int) + ((f.2.2.2.1 - y).natAbs : Int)
def nearR (F : List FeatureT) (x y : Int) (d : Nat) : Nat → List Int
  | 0 => []
  | k + 1 => if nrAt (F.getD k default) x y = d then nearR F x y d k ++ [(F.getD k default).1] else nearR F x y d k
def nearD (F : List FeatureT) (x y : Int) : Nat → List Int
  | 0 => []
  | d + 1 => nearD F x y d ++ nearR F x y d F.length
def nearOk (c : Ch) (x y far : Int) : Bool := chartB c && placeB c.wd c.hg x y && inB far 0 100
def nearOf (c : Ch) (x y far : Int) : List Int := if nearOk c x y far = true then nearD c.F x y (far.toNat + 1) else []
theorem nearR_len (F : List FeatureT) (x y : Int) (d : Nat) : ∀ k, (nearR F x y d k).length ≤ k
  | 0 => Nat.le_refl _
  | k + 1 => by
    have := nearR_len F x y d k
    rw [nearR]
    split
    · simp; omega
    · omega
theorem nearD_len (F : List FeatureT) (x y : Int) (hF : F.length ≤ 30) : ∀ d, (nearD F x y d).length ≤ d * 30
  | 0 => Nat.le_refl _
  | d + 1 => by
    have := nearD_len F x y hF d
    have := nearR_len F x y d F.length
    rw [nearD, List.length_append]
    omega

theorem feat_bd {c : Ch} (h : chartB c = true) {i : Nat} (hi : i < c.F.length) : 0 ≤ (c.F.getD i default).2.2.1 ∧ (c.F.getD i default).2.2.1 ≤ 11 ∧ 0 ≤ (c.F.getD i default).2.2.2.1 ∧ (c.F.getD i default).2.2.2.1 ≤ 11 := by
  obtain ⟨_, hw1, _, hh1, _⟩ := chartB_head h
  simp only [chartB, Bool.and_eq_true] at h
  have hf := List.all_eq_true.1 h.2 i (by simpa using hi)
  simp only [featsB, featB, placeB, inB, Bool.and_eq_true, decide_eq_true_eq] at hf
  have := hf.1.1.2
  omega

theorem belowB_drewN (B : Nat) (V : World) (n : Nat) : Below B V (V.drewN n) := ⟨rfl, rfl, rfl, Nat.le_refl _, fun _ _ => rfl⟩
theorem l3Size_6 (n : Int) (w : World) (h0 : -9223372036854775807 ≤ n) : Calls Try.prog 87 #[.int .i64 n] w fun e w' => e = .returned (.int .i64 (n.natAbs : Int)) ∧ w' = w := by
  by_cases h : n < 0
  · have q : IntKind.i64.wrap (-n) = (n.natAbs : Int) := by rw [IntKind.wrap_i64]; omega
    have q' : -n = (n.natAbs : Int) := by omega
    generalize (n.natAbs : Int) = m at *
    go_enter Try.func87, Try.ntmps87
    go_wp2
    go_ret
    exact ⟨rfl, rfl⟩
  · have q : (n.natAbs : Int) = n := by omega
    rw [q]
    go_enter Try.func87, Try.ntmps87
    go_wp2
    go_ret
    exact ⟨rfl, rfl⟩

set_option maxRecDepth 10000 in
set_option maxHeartbeats 8000000 in
theorem specNear6_any (c : Ch) (dao : Option Addr) (dn dc : Nat) (fao : Option Addr) (fn fc : Nat) (x y far : Int) (w : World) (hD : IntsIn w (.slice dao dn dc) c.D) (hF : RFeature w (.slice fao fn fc) c.F) :
    Calls Try.prog 44 #[vChart c.wd c.hg (.slice dao dn dc) (.slice fao fn fc) c.ed, .int .i64 x, .int .i64 y, .int .i64 far] w fun e w' => ∃ a n cp, e = .returned (.slice a n cp) ∧ OwnSl w.heap.size w' (.slice a n cp) (nearOf c x y far) ∧ Below w.heap.size w w' := by
  have A := Below.alloc1 w (.cells #[.int .i64 c.wd, .int .i64 c.hg, .slice dao dn dc, .slice fao fn fc, .int .i64 c.ed] 27)
  have O := (ownV_alloc w #[.int .i64 c.wd, .int .i64 c.hg, .slice dao dn dc, .slice fao fn fc, .int .i64 c.ed] 27).alloc (.cells #[] 3)
  have A2 := Below.step A (Below.alloc1 _ (.cells #[] 3))
  have HC := hide (specChartOk_any c dao dn dc fao fn fc _ (hD.below A2) (hF.below A2))
  obtain ⟨fao', fc', eF, hfl, hfm, hfc⟩ := hF
  simp only [Value.slice.injEq] at eF
  obtain ⟨rfl, rfl, rfl⟩ := eF
  unfold maxLen at hfm
  have HFC := hide hfc
  have HW := hide A2
  have HO := hide O
  have hR0 : ((w.alloc (.cells #[.int .i64 c.wd, .int .i64 c.hg, .slice dao dn dc, .slice fao c.F.length fc, .int .i64 c.ed] 27)).alloc (.cells #[] 3)).ownsRow (w.heap.size + 1) 3 1 (.slice (some ⟨w.heap.size + 1, 0, none⟩) 0 0) 0 (ints []) := by
    have h := Go.Deep.blk_alloc_new (w.alloc (.cells #[.int .i64 c.wd, .int .i64 c.hg, .slice dao dn dc, .slice fao c.F.length fc, .int .i64 c.ed] 27)) (.cells #[] 3)
    simp only [World.size_alloc] at h
    exact ⟨rfl, Or.inr ⟨w.heap.size + 1, 0, #[], rfl, Nat.le_refl _, h, Nat.le_refl _, Nat.zero_le _, rfl, rfl⟩⟩
  have HR0 := hide hR0
  obtain ⟨i0, hi, hz0, hz1, hz2⟩ := info_parts Try.infoInt6
  clear A A2 O hD hfc hR0
  obtain ⟨N, eN⟩ : ∃ N, N = nearOf c x y far := ⟨_, rfl⟩
  rw [← eN]
  have EN := hide eN
  clear eN
  unfold vChart at HC ⊢
  cases hok : chartB c with
  | false =>
    have HE : Hid ([] = N) := by show _ = _; rw [unhide EN, nearOf, if_neg (by rw [nearOk, hok]; simp)]
    rw [hok] at HC
    go_enter Try.func44, Try.ntmps44
    go_wp2_with fail
    refine (unhide HC).mono ?_
    rintro e w1 ⟨rfl, hb⟩
    obtain ⟨a, n, cp, ev, hO⟩ := own_told (M := []) (ownsRow_below (unhide HR0) hb) (unhide HE)
    simp only [Value.slice.injEq] at ev
    obtain ⟨rfl, rfl, rfl⟩ := ev
    have HO2 := hide hO
    have HW1 := hide (Below.step (unhide HW) hb)
    clear hb HC hO
    go_wp2
    go_ret
    exact ⟨_, _, _, rfl, unhide HO2, unhide HW1⟩
  | true =>
    obtain ⟨hw0, hw1, hh0, hh1, -, hF30, -, -⟩ := chartB_head hok
    rw [hok] at HC
    have HP := hide fun V => l6Place_any c.wd c.hg c.ed x y (.slice dao dn dc) (.slice fao c.F.length fc) V (by omega) (by omega) (by omega) (by omega)
    unfold vChart at HP
    cases hpl : placeB c.wd c.hg x y with
    | false =>
      have HE : Hid ([] = N) := by show _ = _; rw [unhide EN, nearOf, if_neg (by rw [nearOk, hpl]; simp)]
      rw [hpl] at HP
      go_enter Try.func44, Try.ntmps44
      go_wp2_with fail
      refine (unhide HC).mono ?_
      rintro e w1 ⟨rfl, hb⟩
      have HO1 := hide (OwnV.step (unhide HO) hb)
      have HW1 := hide (Below.step (unhide HW) hb)
      have HR1 := hide (ownsRow_below (unhide HR0) hb)
      have b0 := (unhide HO1).cell (i := 0) rfl
      have b1 := (unhide HO1).cell (i := 1) rfl
      have b2 := (unhide HO1).cell (i := 2) rfl
      have b3 := (unhide HO1).cell (i := 3) rfl
      have b4 := (unhide HO1).cell (i := 4) rfl
      clear hb HC HO HW HR0
      go_wp2_with fail
      refine (unhide HP _).mono ?_
      rintro e w2 ⟨rfl, hb⟩
      replace HO1 := hide (OwnV.step (unhide HO1) hb)
      replace HW1 := hide (Below.step (unhide HW1) hb)
      replace HR1 := hide (ownsRow_below (unhide HR1) hb)
      clear hb HP b0 b1 b2 b3 b4
      obtain ⟨a, n, cp, ev, hO⟩ := own_told (M := []) (unhide HR1) (unhide HE)
      simp only [Value.slice.injEq] at ev
      obtain ⟨rfl, rfl, rfl⟩ := ev
      have HO2 := hide hO
      clear hO
      go_wp2
      go_ret
      exact ⟨_, _, _, rfl, unhide HO2, unhide HW1⟩
    | true =>
      rw [hpl] at HP
      obtain ⟨px0, px1, py0, py1⟩ := place_bd hpl
      cases hfa : inB far 0 100 with
      | false =>
        have HE : Hid ([] = N) := by show _ = _; rw [unhide EN, nearOf, if_neg (by rw [nearOk, hfa]; simp)]
        go_enter Try.func44, Try.ntmps44
        go_wp2_with fail
        refine (unhide HC).mono ?_
        rintro e w1 ⟨rfl, hb⟩
        have HO1 := hide (OwnV.step (unhide HO) hb)
        have HW1 := hide (Below.step (unhide HW) hb)
        have HR1 := hide (ownsRow_below (unhide HR0) hb)
        have b0 := (unhide HO1).cell (i := 0) rfl
        have b1 := (unhide HO1).cell (i := 1) rfl
        have b2 := (unhide HO1).cell (i := 2) rfl
        have b3 := (unhide HO1).cell (i := 3) rfl
        have b4 := (unhide HO1).cell (i := 4) rfl
        clear hb HC HO HW HR0
        go_wp2_with fail
        refine (unhide HP _).mono ?_
        rintro e w2 ⟨rfl, hb⟩
        replace HO1 := hide (OwnV.step (unhide HO1) hb)
        replace HW1 := hide (Below.step (unhide HW1) hb)
        replace HR1 := hide (ownsRow_below (unhide HR1) hb)
        clear hb HP b0 b1 b2 b3 b4
        obtain ⟨a, n, cp, ev, hO⟩ := own_told (M := []) (unhide HR1) (unhide HE)
        simp only [Value.slice.injEq] at ev
        obtain ⟨rfl, rfl, rfl⟩ := ev
        have HO2 := hide hO
        clear hO
        go_wp2_with (go_at_call 63; refine (l1In_any _ _ _ _).mono ?_; rintro e w' ⟨rfl, h9⟩; have h8 := h9.symm; subst h8; clear h9)
        go_ret
        exact ⟨_, _, _, rfl, unhide HO2, unhide HW1⟩
      | true =>
        have hfar : 0 ≤ far ∧ far ≤ 100 := by simpa [inB] using hfa
        obtain ⟨fr, rfl⟩ := Int.eq_ofNat_of_zero_le hfar.1
        have hfr : fr ≤ 100 := by omega
        have HE : Hid (N = nearD c.F x y (fr + 1)) := by show _ = _; rw [unhide EN, nearOf, if_pos (by rw [nearOk, hok, hpl, hfa]; rfl), Int.toNat_natCast]
        clear hfar
        go_enter Try.func44, Try.ntmps44
        go_wp2_with fail
        refine (unhide HC).mono ?_
        rintro e w1 ⟨rfl, hb⟩
        have HO1 := hide (OwnV.step (unhide HO) hb)
        have HW1 := hide (Below.step (unhide HW) hb)
        have HR1 := hide (ownsRow_below (unhide HR0) hb)
        have b0 := (unhide HO1).cell (i := 0) rfl
        have b1 := (unhide HO1).cell (i := 1) rfl
        have b2 := (unhide HO1).cell (i := 2) rfl
        have b3 := (unhide HO1).cell (i := 3) rfl
        have b4 := (unhide HO1).cell (i := 4) rfl
        clear hb HC HO HW HR0
        go_wp2_with fail
        refine (unhide HP _).mono ?_
        rintro e w2 ⟨rfl, hb⟩
        replace HO1 := hide (OwnV.step (unhide HO1) hb)
        replace HW1 := hide (Below.step (unhide HW1) hb)
        replace HR1 := hide (ownsRow_below (unhide HR1) hb)
        clear hb HP b0 b1 b2 b3 b4
        go_wp2_with (go_at_call 63; refine (l1In_any _ _ _ _).mono ?_; rintro e w' ⟨rfl, h9⟩; have h8 := h9.symm; subst h8; clear h9)
        have HFB := hide fun i (h : i < c.F.length) => feat_bd hok h
        clear hfa hok hpl EN
        have hxb : x ≤ 11 := by omega
        have hyb : y ≤ 11 := by omega
        go_loopg [9, 10] (fr + 1) (fun g ov dv wr => ∃ d : Nat, d ≤ fr + 1 ∧ g = fr + 1 - d ∧ dv = .int .i64 d ∧ wr.ownsRow (w.heap.size + 1) 3 1 ov (nearD c.F x y d).length (ints (nearD c.F x y d)) ∧ Hid (OwnV wr w.heap.size [.int .i64 c.wd, .int .i64 c.hg, .slice dao dn dc, .slice fao c.F.length fc, .int .i64 c.ed]) ∧ Hid (Below w.heap.size w wr))
        case atStart => exact ⟨0, Nat.zero_le _, rfl, rfl, unhide HR1, HO1, HW1⟩
        case round =>
          clear HO1 HW1 HR1
          obtain ⟨d, hd, rfl, rfl, hR, HO1, HW1⟩ := hrel
          have HR := hide hR
          clear hR
          have hNl := nearD_len c.F x y hF30 d
          by_cases hdf : d ≤ fr
          · have hdi : (d : Int) ≤ fr := by omega
            have EX : Hid (nearD c.F x y (d + 1) = nearD c.F x y d ++ nearR c.F x y d c.F.length) := rfl
            obtain ⟨M, eM⟩ : ∃ M, M = nearD c.F x y d := ⟨_, rfl⟩
            rw [← eM] at HR EX hNl
            clear eM
            generalize wr = wo at *
            go_wp2
            go_loopg [9, 11] c.F.length (fun g ov iv wr => ∃ k : Nat, k ≤ c.F.length ∧ g = c.F.length - k ∧ iv = .int .i64 k ∧ wr.ownsRow (w.heap.size + 1) 3 1 ov (M ++ nearR c.F x y d k).length (ints (M ++ nearR c.F x y d k)) ∧ Hid (OwnV wr w.heap.size [.int .i64 c.wd, .int .i64 c.hg, .slice dao dn dc, .slice fao c.F.length fc, .int .i64 c.ed]) ∧ Hid (Below w.heap.size w wr))
            case atStart => exact ⟨0, Nat.zero_le _, rfl, rfl, by rw [nearR, List.append_nil]; exact unhide HR, HO1, HW1⟩
            case round =>
              clear HO1 HW1 HR
              obtain ⟨k, hk, rfl, rfl, hR, HO1, HW1⟩ := hrel
              have HR := hide hR
              have hsz := (unhide HW1).size
              have hbl := (unhide HO1).lt
              clear hR
              have b3 := (unhide HO1).cell (i := 3) rfl
              by_cases hkn : k < c.F.length
              · obtain ⟨b, o, x0, x1, x2, x3, x4, rfl, hc0, hc1, hc2, hc3, hc4, EF⟩ := recFeatureAt (unhide HFC) hkn
                have g0 := wcell3 hc0 (unhide HW1)
                have g1 := wcell3 hc1 (unhide HW1)
                have g2 := wcell3 hc2 (unhide HW1)
                have g3 := wcell3 hc3 (unhide HW1)
                have g4 := wcell3 hc4 (unhide HW1)
                have hfb := unhide HFB k hkn
                rw [unhide EF] at hfb
                obtain ⟨f0, f1, f2, f3⟩ := hfb
                dsimp only at f0 f1 f2 f3
                have hRl := nearR_len c.F x y d k
                have ES : Hid (M ++ nearR c.F x y d (k + 1) = if ((x2 - x).natAbs : Int) + ((x3 - y).natAbs : Int) = d then M ++ nearR c.F x y d k ++ [x0] else M ++ nearR c.F x y d k) := by
                  show _ = _
                  rw [nearR, unhide EF]
                  unfold nrAt
                  dsimp only
                  split
                  · rw [List.append_assoc]
                  · rfl
                have hki : (k : Int) < c.F.length := by omega
                clear hc0 hc1 hc2 hc3 hc4 EF
                obtain ⟨K, eK⟩ : ∃ K, K = M ++ nearR c.F x y d k := ⟨_, rfl⟩
                have hKl : K.length ≤ 3060 := by rw [eK, List.length_append]; omega
                rw [← eK] at HR ES
                clear eK
                obtain ⟨p, ep⟩ : ∃ p, x2 - x = p := ⟨_, rfl⟩
                obtain ⟨q, eq⟩ : ∃ q, x3 - y = q := ⟨_, rfl⟩
                have w2 : IntKind.i64.wrap (x2 - x) = p := by rw [ep, IntKind.wrap_i64]; omega
                have w3 : IntKind.i64.wrap (x3 - y) = q := by rw [eq, IntKind.wrap_i64]; omega
                rw [ep, eq] at ES
                have HQ1 := hide fun V => l3Size_6 p V (by omega)
                have HQ2 := hide fun V => l3Size_6 q V (by omega)
                have hp1 : (p.natAbs : Int) ≤ 11 := by omega
                have hq1 : (q.natAbs : Int) ≤ 11 := by omega
                have hp0 : 0 ≤ (p.natAbs : Int) := by omega
                have hq0 : 0 ≤ (q.natAbs : Int) := by omega
                generalize (p.natAbs : Int) = na at *
                generalize (q.natAbs : Int) = nb at *
                obtain ⟨t, et⟩ : ∃ t, na + nb = t := ⟨_, rfl⟩
                rw [et] at ES
                have w4 : IntKind.i64.wrap (na + nb) = t := by rw [et, IntKind.wrap_i64]; omega
                have AL := Below.alloc1 wr (.cells #[.int .i64 x0, .int .i64 x1, .int .i64 x2, .int .i64 x3, .string x4] 95)
                have hBx := ownV_alloc wr #[.int .i64 x0, .int .i64 x1, .int .i64 x2, .int .i64 x3, .string x4] 95
                have HBx := hide hBx
                have HO2 := hide (OwnV.step (unhide HO1) AL)
                have HW2 := hide (Below.step (unhide HW1) AL)
                have HR2 := hide (ownsRow_below (unhide HR) AL)
                clear AL hBx HO1 HW1 HR
                go_wp2
                obtain ⟨V0, e0⟩ : ∃ z, z = wr.alloc (.cells #[.int .i64 x0, .int .i64 x1, .int .i64 x2, .int .i64 x3, .string x4] 95) := ⟨_, rfl⟩
                rw [← e0] at HBx HO2 HW2 HR2 ⊢
                clear e0 g0 g1 g2 g3 g4 b3
                have c0 := (unhide HBx).cell (i := 0) rfl
                have c2 := (unhide HBx).cell (i := 2) rfl
                have c3 := (unhide HBx).cell (i := 3) rfl
                have hblt := (unhide HBx).lt
                go_quiet ((go_at_call 87; (first | exact Calls.quiet_of_same (unhide HQ1 _) | exact Calls.quiet_of_same (unhide HQ2 _))))
                by_cases htd : t = (d : Int)
                · rw [if_pos htd] at ES
                  have d1 : (t == (d : Int)) = true := by simp; exact htd
                  have d2 : decide (t = (d : Int)) = true := decide_eq_true htd
                  have HR3 := hide (ownsRow_below (ownsRow_below (unhide HR2) (below_drewN (Below.refl _ V0) nq)) (Below.alloc1 (V0.drewN nq) (.cells #[.int .i64 x0] 3)))
                  clear htd HQ1 HQ2 w2 w3 w4 ep eq et
                  go_wp2_with (at_builtin; go_must (refine wpList_append_lies _ rfl _ _ 24 rfl (w.heap.size + 1) 3 i0 _ 1 8 Try.underlying24 hi hz0 hz1 hz2 rfl (by decide) _ K.length _ rfl (unhide HR3) ⟨V0.heap.size, 0, none⟩ 1 1 [.int .i64 x0] rfl rfl (cell_one_new _ _ _) (by simp [Value.oneCell']) (by omega) (by unfold maxLen; omega) (by omega) (by simp; omega) _ rfl ?_); intro g4' cap4 wa hown hgrow hat hlt4; go_must (have HWa := hide ((((belowB_drewN (w.heap.size + 1) V0 nq)).alloc (by simp; omega) (.cells #[.int .i64 x0] 3)).grown hgrow (by simp; omega) (fun g hg => ((unhide HR2).lt g hg).1))); have HOW := hide hown; clear hown hgrow hat)
                  go_roundg (c.F.length - (k + 1))
                  case measure => omega
                  case rel =>
                    have hWa := unhide HWa
                    refine ⟨k + 1, by omega, rfl, by go_num, ?_, (unhide HO2).below hWa (Nat.lt_succ_self _), ?_⟩
                    · rw [unhide ES, show ints (K ++ [x0]) = ints K ++ [.int .i64 x0] by simp [ints], List.length_append]
                      exact unhide HOW
                    · exact (unhide HW2).trans ⟨hWa.os, hWa.tape, hWa.output, hWa.size, fun q hq => hWa.block q (by omega)⟩
                · rw [if_neg htd] at ES
                  have d1 : (t == (d : Int)) = false := by simp; exact htd
                  have d2 : decide (t = (d : Int)) = false := decide_eq_false htd
                  have hb := below_drewN (Below.refl V0.heap.size V0) nq
                  have HO3 := hide (OwnV.step (unhide HO2) hb)
                  have HW3 := hide (Below.step (unhide HW2) hb)
                  have HR3 := hide (ownsRow_below (unhide HR2) hb)
                  clear htd HQ1 HQ2 w2 w3 w4 ep eq et hb
                  go_wp2
                  go_roundg (c.F.length - (k + 1))
                  case measure => omega
                  case rel => exact ⟨k + 1, by omega, rfl, by go_num, by rw [unhide ES]; exact unhide HR3, HO3, HW3⟩
              · have hkk : k = c.F.length := by omega
                have hki : ¬ (k : Int) < c.F.length := by omega
                rw [hkk, ← unhide EX] at HR
                clear hkk
                go_wp2
                go_roundg (fr + 1 - (d + 1))
                case measure => omega
                case rel => exact ⟨d + 1, by omega, rfl, by go_num, unhide HR, HO1, HW1⟩
          · have hdd : d = fr + 1 := by omega
            have hdi : ¬ (d : Int) ≤ fr := by omega
            obtain ⟨a, n, cp, ev, hO⟩ := own_told (unhide HR) (show nearD c.F x y d = N by rw [hdd, unhide HE])
            subst ev
            have HO2 := hide hO
            clear hO HR hdd
            go_wp2
            go_ret
            exact ⟨_, _, _, rfl, unhide HO2, unhide HW1⟩

end Go.Proofs.Ytoonbidopdflkaa
