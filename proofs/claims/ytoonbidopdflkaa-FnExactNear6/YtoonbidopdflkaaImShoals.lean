/- The contract of the program's Shoals. -/
import Derived.Test.YtoonbidopdflkaaImChartOk
import Derived.Test.YtoonbidopdflkaaChD
namespace Go.Proofs.Ytoonbidopdflkaa
open Go.RowKit

theorem own_told0 {A : World} {B : Nat} {ov : Value} {M N : List Int} (h : A.ownsRow B 3 1 ov M.length (ints M)) (e : M = N) : ∃ a n cp, ov = .slice a n cp ∧ OwnSl B A (.slice a n cp) N := by
  subst e
  have ho := (ownsRow_ownSl h).1
  obtain ⟨a, cp, ev, h1, h2, h3⟩ := ho
  subst ev
  exact ⟨a, _, cp, rfl, a, cp, rfl, h1, h2, h3⟩

set_option maxRecDepth 10000 in
set_option maxHeartbeats 4000000 in
theorem implShoals_any (c : Ch) (dao : Option Addr) (dn dc : Nat) (fao : Option Addr) (fn fc : Nat) (need : Int) (w : World) (hD : IntsIn w (.slice dao dn dc) c.D) (hF : RFeature w (.slice fao fn fc) c.F) :
    Calls Try.prog 21 #[vChart c.wd c.hg (.slice dao dn dc) (.slice fao fn fc) c.ed, .int .i64 need] w fun e w' => ∃ a n cp, e = .returned (.slice a n cp) ∧ OwnSl w.heap.size w' (.slice a n cp) (shoalsOf c need) ∧ Below w.heap.size w w' := by
  have A := Below.alloc1 w (.cells #[.int .i64 c.wd, .int .i64 c.hg, .slice dao dn dc, .slice fao fn fc, .int .i64 c.ed] 27)
  have O := ownV_alloc w #[.int .i64 c.wd, .int .i64 c.hg, .slice dao dn dc, .slice fao fn fc, .int .i64 c.ed] 27
  have HC := hide (implChartOk_any c dao dn dc fao fn fc _ (hD.below A) (hF.below A))
  obtain ⟨dao', dc', eD, hdl, hdm, hdc⟩ := hD
  simp only [Value.slice.injEq] at eD
  obtain ⟨rfl, rfl, rfl⟩ := eD
  unfold maxLen at hdm
  have HDC := hide hdc
  have HW := hide A
  have HO := hide O
  obtain ⟨i0, hi, hz0, hz1, hz2⟩ := info_parts Try.infoInt6
  clear A O hF hdc
  cases hok : chartB c with
  | false =>
    have EN : Hid (shoalsOf c need = []) := by show _ = _; rw [shoalsOf, if_neg (by rw [hok]; simp)]
    rw [hok] at HC
    unfold vChart at HC ⊢
    go_enter Try.func21, Try.ntmps21
    go_wp2_with fail
    refine (unhide HC).mono ?_
    rintro e w1 ⟨rfl, hb⟩
    have HW1 := hide (Below.step (unhide HW) hb)
    clear hb HC
    go_wp2
    go_ret
    exact ⟨none, 0, 0, rfl, by rw [unhide EN]; exact ⟨none, 0, rfl, Nat.le_refl _, Nat.zero_le _, fun h => absurd rfl h⟩, unhide HW1⟩
  | true =>
    obtain ⟨hlen5, hlen6⟩ : (c.D.length : Int) = c.wd * c.hg ∧ c.wd * c.hg ≤ 144 := by
      obtain ⟨q0, q1, q2, q3, q4, -⟩ := chartB_head hok
      exact ⟨q4, (mul_le12 q0 q1 q2 q3).2⟩
    have hD144 : c.D.length ≤ 144 := by omega
    have EN : Hid (shTo c.D need c.D.length = shoalsOf c need) := by show _ = _; rw [shoalsOf, if_pos hok]
    clear hlen5 hlen6
    rw [hok] at HC
    unfold vChart at HC ⊢
    go_enter Try.func21, Try.ntmps21
    go_wp2_with fail
    refine (unhide HC).mono ?_
    rintro e w1 ⟨rfl, hb⟩
    have HW1 := hide (Below.step (unhide HW) hb)
    have hO := OwnV.step (unhide HO) hb
    have b2 := hO.cell (i := 2) rfl
    clear hb HC hO HO HW
    have HR0 : Hid (w1.ownsRow w.heap.size 3 1 (.slice none 0 0) (shTo c.D need 0).length (ints (shTo c.D need 0))) := ⟨rfl, Or.inl ⟨rfl, rfl⟩⟩
    go_wp2
    go_loopg [5, 14] c.D.length (fun g ov i wr => ∃ k : Nat, k ≤ c.D.length ∧ g = c.D.length - k ∧ i = .int .i64 k ∧ wr.ownsRow w.heap.size 3 1 ov (shTo c.D need k).length (ints (shTo c.D need k)) ∧ Hid (Below w.heap.size w wr))
    case atStart => exact ⟨0, Nat.zero_le _, rfl, rfl, unhide HR0, HW1⟩
    case round =>
      clear HR0 HW1
      obtain ⟨k, hk, rfl, rfl, hR, HW1⟩ := hrel
      have HR := hide hR
      have hsz := (unhide HW1).size
      clear hR b2
      by_cases hkn : k < c.D.length
      · have hki : (k : Int) < c.D.length := by omega
        obtain ⟨b, o, rfl, hcell⟩ := unhide HDC k hkn
        have EX := hide (shTo_succ c.D need k)
        have hLk := shTo_len c.D need k
        obtain ⟨M, eM⟩ : ∃ M, M = shTo c.D need k := ⟨_, rfl⟩
        rw [← eM] at HR EX hLk
        have g0 := ((unhide HW1).cell (lt_of_cell hcell)).trans hcell
        clear eM hcell
        generalize c.D.getD k 0 = x at *
        by_cases hlt : x < need
        · rw [if_pos hlt] at EX
          have HR2 := hide (ownsRow_below (unhide HR) (Below.alloc1 wr (.cells #[.int .i64 k] 3)))
          go_wp2_with (at_builtin; refine wpList_append_lies _ rfl _ _ 24 rfl w.heap.size 3 i0 _ 1 8 Try.underlying24 hi hz0 hz1 hz2 rfl (by decide) _ M.length _ rfl (unhide HR2) ⟨wr.heap.size, 0, none⟩ 1 1 [.int .i64 k] rfl rfl (cell_one_new _ _ _) (by simp [Value.oneCell']) (by omega) (by unfold maxLen; omega) (by omega) (by simp; omega) _ rfl ?_; intro g4 cap4 wa hown hgrow hat hlt4; have HWa := hide ((((Below.refl w.heap.size wr)).alloc (by omega) (.cells #[.int .i64 k] 3)).grown hgrow (by simp; omega) (fun g hg => ((unhide HR).lt g hg).1)); have HOW := hide hown; clear hown hgrow hat)
          go_roundg (c.D.length - (k + 1))
          case measure => omega
          case rel =>
            refine ⟨k + 1, by omega, rfl, by go_num, ?_, (unhide HW1).trans (unhide HWa)⟩
            rw [unhide EX, show ints (M ++ [(k : Int)]) = ints M ++ [.int .i64 k] by simp [ints], List.length_append]
            exact unhide HOW
        · rw [if_neg hlt] at EX
          go_wp2
          go_roundg (c.D.length - (k + 1))
          case measure => omega
          case rel => exact ⟨k + 1, by omega, rfl, by go_num, by rw [unhide EX]; exact unhide HR, HW1⟩
      · have hkk : k = c.D.length := by omega
        have hki : ¬ (k : Int) < c.D.length := by omega
        obtain ⟨a, n, cp, ev, hO⟩ := own_told0 (unhide HR) (show shTo c.D need k = shoalsOf c need by rw [hkk, unhide EN])
        subst ev
        have HO2 := hide hO
        clear hO HR hkk
        go_wp2
        go_ret
        exact ⟨_, _, _, rfl, unhide HO2, unhide HW1⟩

end Go.Proofs.Ytoonbidopdflkaa
