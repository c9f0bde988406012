/- Contracts of the specification's DepthAt and Shoals. -/
import Derived.Test.YtoonbidopdflkaaChC
import Derived.Test.YtoonbidopdflkaaOwnInts
import Derived.Test.YtoonbidopdflkaaTwoR
import Derived.Test.YtoonbidopdflkaaAppK
namespace Go.Proofs.Ytoonbidopdflkaa
open Go.RowKit

def depthAt (c : Ch) (x y : Int) : Int × Bool := if (chartB c && placeB c.wd c.hg x y) = true then (c.D.getD (y * c.wd + x).toNat 0, true) else (0, false)
theorem chartB_head {c : Ch} (h : chartB c = true) : 1 ≤ c.wd ∧ c.wd ≤ 12 ∧ 1 ≤ c.hg ∧ c.hg ≤ 12 ∧ (c.D.length : Int) = c.wd * c.hg ∧ c.F.length ≤ 30 ∧ 0 ≤ c.ed ∧ c.ed ≤ 1000000 := by
  simp only [chartB, headB, inB, Bool.and_eq_true, decide_eq_true_eq] at h
  obtain ⟨⟨⟨⟨⟨⟨⟨h1, h2⟩, h3, h4⟩, h5⟩, h6⟩, h7, h8⟩, _⟩, _⟩ := h
  exact ⟨h1, h2, h3, h4, h5, h6, h7, h8⟩
theorem place_bd {wd hg x y : Int} (h : placeB wd hg x y = true) : 0 ≤ x ∧ x ≤ wd - 1 ∧ 0 ≤ y ∧ y ≤ hg - 1 := by
  simp only [placeB, inB, Bool.and_eq_true, decide_eq_true_eq] at h
  exact ⟨h.1.1, h.1.2, h.2.1, h.2.2⟩
theorem place_lt {wd hg x y : Int} (hw0 : 1 ≤ wd) (hw1 : wd ≤ 12) (hh0 : 1 ≤ hg) (hh1 : hg ≤ 12) (hx0 : 0 ≤ x) (hx1 : x ≤ wd - 1) (hy0 : 0 ≤ y) (hy1 : y ≤ hg - 1) : 0 ≤ y * wd ∧ y * wd ≤ 144 ∧ y * wd + x < wd * hg := by
  have h : wd = 1 ∨ wd = 2 ∨ wd = 3 ∨ wd = 4 ∨ wd = 5 ∨ wd = 6 ∨ wd = 7 ∨ wd = 8 ∨ wd = 9 ∨ wd = 10 ∨ wd = 11 ∨ wd = 12 := by omega
  rcases h with rfl | rfl | rfl | rfl | rfl | rfl | rfl | rfl | rfl | rfl | rfl | rfl <;> omega

set_option maxRecDepth 10000 in
set_option maxHeartbeats 4000000 in
theorem specDepthAt_any (c : Ch) (dao : Option Addr) (dn dc : Nat) (fao : Option Addr) (fn fc : Nat) (x y : Int) (w : World) (hD : IntsIn w (.slice dao dn dc) c.D) (hF : RFeature w (.slice fao fn fc) c.F) :
    Calls Try.prog 27 #[vChart c.wd c.hg (.slice dao dn dc) (.slice fao fn fc) c.ed, .int .i64 x, .int .i64 y] w fun e w' => e = .returned (.tuple #[.int .i64 (depthAt c x y).1, .bool (depthAt c x y).2]) ∧ Below w.heap.size w w' := by
  have A := Below.alloc1 w (.cells #[.int .i64 c.wd, .int .i64 c.hg, .slice dao dn dc, .slice fao fn fc, .int .i64 c.ed] 27)
  have O := ownV_alloc w #[.int .i64 c.wd, .int .i64 c.hg, .slice dao dn dc, .slice fao fn fc, .int .i64 c.ed] 27
  have HC := hide (specChartOk_any c dao dn dc fao fn fc _ (hD.below A) (hF.below A))
  obtain ⟨dao', dc', eD, hdl, hdm, hdc⟩ := hD
  simp only [Value.slice.injEq] at eD
  obtain ⟨rfl, rfl, rfl⟩ := eD
  have HDC := hide hdc
  have HW := hide A
  have HO := hide O
  obtain ⟨R, eR⟩ : ∃ R, R = depthAt c x y := ⟨_, rfl⟩
  rw [← eR]
  have ER := hide eR
  clear A O hF hdc eR
  cases hok : chartB c with
  | false =>
    have EN : Hid (R = (0, false)) := by show _ = _; rw [unhide ER, depthAt, if_neg (by rw [hok]; simp)]
    rw [hok] at HC
    unfold vChart at HC ⊢
    go_enter Try.func27, Try.ntmps27
    go_wp2_with fail
    refine (unhide HC).mono ?_
    rintro e w1 ⟨rfl, hb⟩
    have HW1 := hide (Below.step (unhide HW) hb)
    clear hb HC
    go_wp2
    refine bodyPost_ret (v := .tuple #[.int .i64 0, .bool false]) (by simp [results, Try.results27, go_sem]) rfl ⟨by rw [unhide EN], unhide HW1⟩
  | true =>
    obtain ⟨hw0, hw1, hh0, hh1, hlen, -, -, -⟩ := chartB_head hok
    have HP := hide fun V => l6Place_any c.wd c.hg c.ed x y (.slice dao c.D.length dc) (.slice fao fn fc) V (by omega) (by omega) (by omega) (by omega)
    rw [hok] at HC
    unfold vChart at HC HP ⊢
    cases hpl : placeB c.wd c.hg x y with
    | false =>
      have EN : Hid (R = (0, false)) := by show _ = _; rw [unhide ER, depthAt, if_neg (by rw [hpl]; simp)]
      rw [hpl] at HP
      go_enter Try.func27, Try.ntmps27
      go_wp2_with fail
      refine (unhide HC).mono ?_
      rintro e w1 ⟨rfl, hb⟩
      have HW1 := hide (Below.step (unhide HW) hb)
      have hO := OwnV.step (unhide HO) hb
      have b0 := hO.cell (i := 0) rfl
      have b1 := hO.cell (i := 1) rfl
      have b2 := hO.cell (i := 2) rfl
      have b3 := hO.cell (i := 3) rfl
      have b4 := hO.cell (i := 4) rfl
      clear hb HC hO
      go_wp2_with fail
      refine (unhide HP _).mono ?_
      rintro e w2 ⟨rfl, hb⟩
      replace HW1 := hide (Below.step (unhide HW1) hb)
      clear hb b0 b1 b2 b3 b4 HP
      go_wp2
      refine bodyPost_ret (v := .tuple #[.int .i64 0, .bool false]) (by simp [results, Try.results27, go_sem]) rfl ⟨by rw [unhide EN], unhide HW1⟩
    | true =>
      obtain ⟨hx0, hx1, hy0, hy1⟩ := place_bd hpl
      have hq := place_lt hw0 hw1 hh0 hh1 hx0 hx1 hy0 hy1
      obtain ⟨yw, eyw⟩ : ∃ z, z = y * c.wd := ⟨_, rfl⟩
      rw [← eyw, ← hlen] at hq
      obtain ⟨hq0, hq1, hq2⟩ := hq
      obtain ⟨j, ej⟩ := Int.eq_ofNat_of_zero_le (show 0 ≤ yw + x by omega)
      have EN : Hid (R = (c.D.getD j 0, true)) := by show _ = _; rw [unhide ER, depthAt, if_pos (by rw [hok, hpl]; rfl), ← eyw, ej, Int.toNat_natCast]
      have i1 : IntKind.i64.wrap (y * c.wd) = yw := by rw [← eyw, IntKind.wrap_i64]; omega
      have i2 : IntKind.i64.wrap (yw + x) = (j : Int) := by rw [IntKind.wrap_i64]; omega
      have hji : (j : Int) < c.D.length := by omega
      obtain ⟨b, o, rfl, hcell⟩ := unhide HDC j (by omega)
      rw [hpl] at HP
      clear eyw ej hlen
      go_enter Try.func27, Try.ntmps27
      go_wp2_with fail
      refine (unhide HC).mono ?_
      rintro e w1 ⟨rfl, hb⟩
      have HW1 := hide (Below.step (unhide HW) hb)
      have hO := OwnV.step (unhide HO) hb
      have b0 := hO.cell (i := 0) rfl
      have b1 := hO.cell (i := 1) rfl
      have b2 := hO.cell (i := 2) rfl
      have b3 := hO.cell (i := 3) rfl
      have b4 := hO.cell (i := 4) rfl
      have HO1 := hide hO
      clear hb HC hO
      go_wp2_with fail
      refine (unhide HP _).mono ?_
      rintro e w2 ⟨rfl, hb⟩
      replace HW1 := hide (Below.step (unhide HW1) hb)
      clear b0 b1 b2 b3 b4
      have hO := OwnV.step (unhide HO1) hb
      have b0 := hO.cell (i := 0) rfl
      have b2 := hO.cell (i := 2) rfl
      have g0 := ((unhide HW1).cell (lt_of_cell hcell)).trans hcell
      clear hb HP hO hcell
      generalize c.D.getD j 0 = dj at *
      go_wp2
      refine bodyPost_ret (v := .tuple #[.int .i64 dj, .bool true]) (by simp [results, Try.results27, go_sem]) rfl ⟨by rw [unhide EN], unhide HW1⟩

def shIs (D : List Int) (need : Int) (i : Nat) : Bool := decide (D.getD i 0 < need)
def shTo (D : List Int) (need : Int) (k : Nat) : List Int := ((List.range k).filter (shIs D need)).map (fun i : Nat => (i : Int))
def shoalsOf (c : Ch) (need : Int) : List Int := if chartB c = true then shTo c.D need c.D.length else []
theorem shTo_len (D : List Int) (need : Int) (k : Nat) : (shTo D need k).length ≤ k := by
  unfold shTo
  rw [List.length_map]
  exact Nat.le_trans (List.length_filter_le _ _) (by simp)
theorem shTo_succ (D : List Int) (need : Int) (k : Nat) : shTo D need (k + 1) = if D.getD k 0 < need then shTo D need k ++ [(k : Int)] else shTo D need k := by
  unfold shTo
  rw [List.range_succ, List.filter_append]
  by_cases h : D.getD k 0 < need
  · have hs : shIs D need k = true := decide_eq_true h
    rw [if_pos h]
    simp [hs]
  · have hs : shIs D need k = false := decide_eq_false h
    rw [if_neg h]
    simp [hs]
theorem own_told {A : World} {B : Nat} {ov : Value} {M N : List Int} (h : A.ownsRow (B + 1) 3 1 ov M.length (ints M)) (e : M = N) : ∃ a n cp, ov = .slice a n cp ∧ OwnSl B A (.slice a n cp) N := by
  subst e
  have ho := (ownsRow_ownSl h).1
  obtain ⟨a, cp, ev, h1, h2, h3⟩ := ho
  subst ev
  refine ⟨a, _, cp, rfl, a, cp, rfl, h1, h2, fun hne => ?_⟩
  obtain ⟨g, e1, hg, ho⟩ := h3 hne
  exact ⟨g, e1, by omega, ho⟩
theorem Try.infoInt6 : (Try.prog.info? 3).map (fun i => (i.zero, i.size, i.bytes)) = some (some (.int .i64 0), 1, 8) := by kernel_rfl

set_option maxRecDepth 10000 in
set_option maxHeartbeats 4000000 in
theorem specShoals_any (c : Ch) (dao : Option Addr) (dn dc : Nat) (fao : Option Addr) (fn fc : Nat) (need : Int) (w : World) (hD : IntsIn w (.slice dao dn dc) c.D) (hF : RFeature w (.slice fao fn fc) c.F) :
    Calls Try.prog 43 #[vChart c.wd c.hg (.slice dao dn dc) (.slice fao fn fc) c.ed, .int .i64 need] w fun e w' => ∃ a n cp, e = .returned (.slice a n cp) ∧ OwnSl w.heap.size w' (.slice a n cp) (shoalsOf c need) ∧ Below w.heap.size w w' := by
  have A := Below.alloc1 w (.cells #[.int .i64 c.wd, .int .i64 c.hg, .slice dao dn dc, .slice fao fn fc, .int .i64 c.ed] 27)
  have O := (ownV_alloc w #[.int .i64 c.wd, .int .i64 c.hg, .slice dao dn dc, .slice fao fn fc, .int .i64 c.ed] 27).alloc (.cells #[] 3)
  have HC := hide fun V (hV : Below w.heap.size w V) => specChartOk_any c dao dn dc fao fn fc V (hD.below hV) (hF.below hV)
  obtain ⟨dao', dc', eD, hdl, hdm, hdc⟩ := hD
  simp only [Value.slice.injEq] at eD
  obtain ⟨rfl, rfl, rfl⟩ := eD
  unfold maxLen at hdm
  have HDC := hide hdc
  have HW := hide (Below.step A (Below.alloc1 _ (.cells #[] 3)))
  have HO := hide O
  have hR0 : ((w.alloc (.cells #[.int .i64 c.wd, .int .i64 c.hg, .slice dao c.D.length dc, .slice fao fn fc, .int .i64 c.ed] 27)).alloc (.cells #[] 3)).ownsRow (w.heap.size + 1) 3 1 (.slice (some ⟨w.heap.size + 1, 0, none⟩) 0 0) 0 (ints []) := by
    have h := Go.Deep.blk_alloc_new (w.alloc (.cells #[.int .i64 c.wd, .int .i64 c.hg, .slice dao c.D.length dc, .slice fao fn fc, .int .i64 c.ed] 27)) (.cells #[] 3)
    simp only [World.size_alloc] at h
    exact ⟨rfl, Or.inr ⟨w.heap.size + 1, 0, #[], rfl, Nat.le_refl _, h, Nat.le_refl _, Nat.zero_le _, rfl, rfl⟩⟩
  have HR0 := hide hR0
  obtain ⟨i0, hi, hz0, hz1, hz2⟩ := info_parts Try.infoInt6
  clear A O hF hdc hR0
  unfold vChart at HC ⊢
  go_enter Try.func43, Try.ntmps43
  go_wp2
  obtain ⟨W0, eW⟩ : ∃ z, z = (w.alloc (.cells #[.int .i64 c.wd, .int .i64 c.hg, .slice dao c.D.length dc, .slice fao fn fc, .int .i64 c.ed] 27)).alloc (.cells #[] 3) := ⟨_, rfl⟩
  rw [← eW] at HW HO HR0 ⊢
  clear eW
  go_loopg [5, 6] c.D.length (fun g ov i wr => ∃ k : Nat, k ≤ c.D.length ∧ g = c.D.length - k ∧ i = .int .i64 k ∧ wr.ownsRow (w.heap.size + 1) 3 1 ov (shTo c.D need k).length (ints (shTo c.D need k)) ∧ Hid (OwnV wr w.heap.size [.int .i64 c.wd, .int .i64 c.hg, .slice dao c.D.length dc, .slice fao fn fc, .int .i64 c.ed]) ∧ Hid (Below w.heap.size w wr) ∧ Hid (0 < k → chartB c = true))
  case atStart => exact ⟨0, Nat.zero_le _, rfl, rfl, unhide HR0, HO, HW, fun h => by omega⟩
  case round =>
    clear HR0 HO HW
    obtain ⟨k, hk, rfl, rfl, hR, HO, HW, HK⟩ := hrel
    have HR := hide hR
    have hsz := (unhide HW).size
    have hbl := (unhide HO).lt
    clear hR
    have b0 := (unhide HO).cell (i := 0) rfl
    have b1 := (unhide HO).cell (i := 1) rfl
    have b2 := (unhide HO).cell (i := 2) rfl
    have b3 := (unhide HO).cell (i := 3) rfl
    have b4 := (unhide HO).cell (i := 4) rfl
    have FIN : Hid (shTo c.D need k = shoalsOf c need → ∀ (A : World) ov, A.ownsRow (w.heap.size + 1) 3 1 ov (shTo c.D need k).length (ints (shTo c.D need k)) → ∃ a n cp, ov = .slice a n cp ∧ OwnSl w.heap.size A (.slice a n cp) (shoalsOf c need)) := fun e A ov h => own_told h e
    by_cases hkn : k < c.D.length
    · have hki : (k : Int) < c.D.length := by omega
      cases hok : chartB c with
      | false =>
        have hk0 : k = 0 := by
          apply Classical.byContradiction
          intro h
          have := unhide HK (by omega)
          rw [hok] at this
          cases this
        obtain ⟨a, n, cp, ev, hO⟩ := unhide FIN (by rw [shoalsOf, if_neg (by rw [hok]; simp), hk0]; rfl) _ _ (unhide HR)
        subst ev
        have HO2 := hide hO
        have HCV := hide (unhide HC _ (unhide HW))
        rw [hok] at HCV
        clear hk0 hO HK FIN HR
        go_wp2_with fail
        refine (unhide HCV).mono ?_
        rintro e w1 ⟨rfl, hb⟩
        have HO3 := hide (OwnSl.below (unhide HO2) hb)
        have HW1 := hide (Below.step (unhide HW) hb)
        clear hb HCV
        go_wp2
        go_ret
        exact ⟨_, _, _, rfl, unhide HO3, unhide HW1⟩
      | true =>
        obtain ⟨b, o, rfl, hcell⟩ := unhide HDC k hkn
        have HCV := hide (unhide HC _ (unhide HW))
        rw [hok] at HCV
        have EX := hide (shTo_succ c.D need k)
        have hLk := shTo_len c.D need k
        obtain ⟨M, eM⟩ : ∃ M, M = shTo c.D need k := ⟨_, rfl⟩
        rw [← eM] at HR EX hLk
        clear eM FIN
        obtain ⟨_, _, hlen5, hlen6⟩ : True ∧ True ∧ (c.D.length : Int) = c.wd * c.hg ∧ c.wd * c.hg ≤ 144 := by
          obtain ⟨q0, q1, q2, q3, q4, -⟩ := chartB_head hok
          exact ⟨trivial, trivial, q4, (mul_le12 q0 q1 q2 q3).2⟩
        have hD144 : c.D.length ≤ 144 := by omega
        clear hlen5 hlen6
        go_wp2_with fail
        refine (unhide HCV).mono ?_
        rintro e w1 ⟨rfl, hb⟩
        have HO1 := hide (OwnV.step (unhide HO) hb)
        have HW1 := hide (Below.step (unhide HW) hb)
        have HR1 := hide (ownsRow_below (unhide HR) hb)
        have g0 := ((unhide HW1).cell (lt_of_cell hcell)).trans hcell
        have hsz1 := hb.size
        clear hb HCV hcell b0 b1 b2 b3 b4 HO HW HR
        have b2 := (unhide HO1).cell (i := 2) rfl
        generalize c.D.getD k 0 = x at *
        by_cases hlt : x < need
        · rw [if_pos hlt] at EX
          have HR2 := hide (ownsRow_below (unhide HR1) (Below.alloc1 w1 (.cells #[.int .i64 k] 3)))
          go_wp2_with (at_builtin; refine wpList_append_lies _ rfl _ _ 24 rfl (w.heap.size + 1) 3 i0 _ 1 8 Try.underlying24 hi hz0 hz1 hz2 rfl (by decide) _ M.length _ rfl (unhide HR2) ⟨w1.heap.size, 0, none⟩ 1 1 [.int .i64 k] rfl rfl (cell_one_new _ _ _) (by simp [Value.oneCell']) (by omega) (by unfold maxLen; omega) (by omega) (by simp; omega) _ rfl ?_; intro g4 cap4 wa hown hgrow hat hlt4; have HWa := hide ((((Below.refl (w.heap.size + 1) w1)).alloc (by omega) (.cells #[.int .i64 k] 3)).grown hgrow (by simp; omega) (fun g hg => ((unhide HR1).lt g hg).1)); have HOW := hide hown; clear hown hgrow hat)
          go_roundg (c.D.length - (k + 1))
          case measure => omega
          case rel =>
            have hWa := unhide HWa
            refine ⟨k + 1, by omega, rfl, by go_num, ?_, (unhide HO1).below hWa (Nat.lt_succ_self _), ?_, fun _ => hok⟩
            · rw [unhide EX, show ints (M ++ [(k : Int)]) = ints M ++ [.int .i64 k] by simp [ints], List.length_append]
              exact unhide HOW
            · exact (unhide HW1).trans ⟨hWa.os, hWa.tape, hWa.output, hWa.size, fun q hq => hWa.block q (by omega)⟩
        · rw [if_neg hlt] at EX
          go_wp2
          go_roundg (c.D.length - (k + 1))
          case measure => omega
          case rel => exact ⟨k + 1, by omega, rfl, by go_num, by rw [unhide EX]; exact unhide HR1, HO1, HW1, fun _ => hok⟩
    · have hkk : k = c.D.length := by omega
      have hki : ¬ (k : Int) < c.D.length := by omega
      obtain ⟨a, n, cp, ev, hO⟩ := unhide FIN (by
        rw [shoalsOf]
        split
        · rw [hkk]
        · rename_i hno
          have : k = 0 := by
            apply Classical.byContradiction
            intro h
            exact hno (unhide HK (by omega))
          rw [this]
          rfl) _ _ (unhide HR)
      subst ev
      have HO2 := hide hO
      clear hO HK FIN HR hkk
      go_wp2
      go_ret
      exact ⟨_, _, _, rfl, unhide HO2, unhide HW⟩

end Go.Proofs.Ytoonbidopdflkaa
