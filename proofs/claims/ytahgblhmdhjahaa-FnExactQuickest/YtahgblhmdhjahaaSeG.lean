/- Contract of the specification's Quickest. Written by wip/mkquick.py. -/
import Derived.Test.YtahgblhmdhjahaaSeG0
import Derived.Deep.DeepCutAuto
namespace Go.Proofs.Ytahgblhmdhjahaa
open Go.RowKit

theorem Try.infoBool7 : (Try.prog.info? 4).map (fun i => (i.zero, i.size, i.bytes)) = some (some (.bool false), 1, 1) := by kernel_rfl

set_option maxRecDepth 10000 in
set_option maxHeartbeats 32000000 in
theorem specQuickest_any (s : Se) (dao : Option Addr) (dn dc : Nat) (fao : Option Addr) (fn fc : Nat) (x y z : Int) (w : World) (hD : IntsIn w (.slice dao dn dc) s.D) (hF : RClosed w (.slice fao fn fc) s.F) :
    Calls Try.prog 36 #[vSea s.wd s.hg (.slice dao dn dc) (.slice fao fn fc), .int .i64 x, .int .i64 y, .int .i64 z] w fun e w' => e = .returned (.tuple #[.int .i64 (quickest s x y z).1, .bool (quickest s x y z).2]) ∧ Below w.heap.size w w' := by
  have A := Below.alloc1 w (.cells #[.int .i64 s.wd, .int .i64 s.hg, .slice dao dn dc, .slice fao fn fc] 27)
  have O := ownV_alloc w #[.int .i64 s.wd, .int .i64 s.hg, .slice dao dn dc, .slice fao fn fc] 27
  have HOK := hide (specSeaOk_any s dao dn dc fao fn fc _ (hD.below A) (hF.below A))
  have HF := hide hF
  obtain ⟨dao', dc', eD, hdl, hdm, hdc⟩ := hD
  simp only [Value.slice.injEq] at eD
  obtain ⟨rfl, rfl, rfl⟩ := eD
  have HDC := hide hdc
  have HW := hide A
  have HO := hide O
  clear A O hdc hF
  unfold vSea at HOK ⊢
  cases h1 : seaB s with
  | false =>
    have HN : Hid (quickest s x y z = (-1, false)) := quickest_no (by unfold quick0B; rw [h1]; rfl)
    rw [h1] at HOK
    go_enter Try.func36, Try.ntmps36
    go_wp2_with (go_at_call 23; refine (unhide HOK).mono ?_; rintro e w1 ⟨rfl, hb⟩; replace HW := hide (Below.step (unhide HW) hb); replace HO := hide (OwnV.step (unhide HO) hb); have b0 := (unhide HO).cell (i := 0) rfl; have b1 := (unhide HO).cell (i := 1) rfl; have b2 := (unhide HO).cell (i := 2) rfl; have b3 := (unhide HO).cell (i := 3) rfl; clear hb)
    refine bodyPost_ret (v := .tuple #[.int .i64 (-1), .bool false]) (by simp [results, Try.results36, go_sem]) rfl ⟨by rw [unhide HN], unhide HW⟩
  | true =>
  rw [h1] at HOK
  have hn := seaB_n h1
  have HP1 := hide fun V => l7Place_any s x (.slice dao s.D.length dc) (.slice fao fn fc) V hn
  have HP2 := hide fun V => l7Place_any s y (.slice dao s.D.length dc) (.slice fao fn fc) V hn
  unfold vSea at HP1 HP2
  cases h2 : onB s x with
  | false =>
    have HN : Hid (quickest s x y z = (-1, false)) := quickest_no (by unfold quick0B; rw [h2]; simp)
    rw [h2] at HP1
    go_enter Try.func36, Try.ntmps36
    go_wp2_with (first | (go_at_call 23; refine (unhide HOK).mono ?_; rintro e w1 ⟨rfl, hb⟩; replace HW := hide (Below.step (unhide HW) hb); replace HO := hide (OwnV.step (unhide HO) hb); have b0 := (unhide HO).cell (i := 0) rfl; have b1 := (unhide HO).cell (i := 1) rfl; have b2 := (unhide HO).cell (i := 2) rfl; have b3 := (unhide HO).cell (i := 3) rfl; clear hb) | (go_at_call 63; refine (unhide HP1 _).mono ?_; rintro e w2 ⟨rfl, hb⟩; replace HW := hide (Below.step (unhide HW) hb); replace HO := hide (OwnV.step (unhide HO) hb); have f0 := (unhide HO).cell (i := 0) rfl; have f1 := (unhide HO).cell (i := 1) rfl; have f2 := (unhide HO).cell (i := 2) rfl; have f3 := (unhide HO).cell (i := 3) rfl; clear hb))
    refine bodyPost_ret (v := .tuple #[.int .i64 (-1), .bool false]) (by simp [results, Try.results36, go_sem]) rfl ⟨by rw [unhide HN], unhide HW⟩
  | true =>
  rw [h2] at HP1
  cases h3 : onB s y with
  | false =>
    have HN : Hid (quickest s x y z = (-1, false)) := quickest_no (by unfold quick0B; rw [h3]; simp)
    rw [h3] at HP2
    go_enter Try.func36, Try.ntmps36
    go_wp2_with fail
    refine (unhide HOK).mono ?_
    rintro e w1 ⟨rfl, hb⟩
    replace HW := hide (Below.step (unhide HW) hb)
    replace HO := hide (OwnV.step (unhide HO) hb)
    have b0 := (unhide HO).cell (i := 0) rfl
    have b1 := (unhide HO).cell (i := 1) rfl
    have b2 := (unhide HO).cell (i := 2) rfl
    have b3 := (unhide HO).cell (i := 3) rfl
    clear hb
    go_wp2_with fail
    refine (unhide HP1 _).mono ?_
    rintro e w2 ⟨rfl, hb⟩
    replace HW := hide (Below.step (unhide HW) hb)
    replace HO := hide (OwnV.step (unhide HO) hb)
    have f0 := (unhide HO).cell (i := 0) rfl
    have f1 := (unhide HO).cell (i := 1) rfl
    have f2 := (unhide HO).cell (i := 2) rfl
    have f3 := (unhide HO).cell (i := 3) rfl
    clear hb
    go_wp2_with fail
    refine (unhide HP2 _).mono ?_
    rintro e w3 ⟨rfl, hb⟩
    replace HW := hide (Below.step (unhide HW) hb)
    replace HO := hide (OwnV.step (unhide HO) hb)
    have g0 := (unhide HO).cell (i := 0) rfl
    have g1 := (unhide HO).cell (i := 1) rfl
    have g2 := (unhide HO).cell (i := 2) rfl
    have g3 := (unhide HO).cell (i := 3) rfl
    clear hb
    go_wp2
    refine bodyPost_ret (v := .tuple #[.int .i64 (-1), .bool false]) (by simp [results, Try.results36, go_sem]) rfl ⟨by rw [unhide HN], unhide HW⟩
  | true =>
  rw [h3] at HP2
  cases h4 : inB z 0 200 with
  | false =>
    have HN : Hid (quickest s x y z = (-1, false)) := quickest_no (by unfold quick0B; rw [h4]; simp)
    go_enter Try.func36, Try.ntmps36
    go_wp2_with fail
    refine (unhide HOK).mono ?_
    rintro e w1 ⟨rfl, hb⟩
    replace HW := hide (Below.step (unhide HW) hb)
    replace HO := hide (OwnV.step (unhide HO) hb)
    have b0 := (unhide HO).cell (i := 0) rfl
    have b1 := (unhide HO).cell (i := 1) rfl
    have b2 := (unhide HO).cell (i := 2) rfl
    have b3 := (unhide HO).cell (i := 3) rfl
    clear hb
    go_wp2_with fail
    refine (unhide HP1 _).mono ?_
    rintro e w2 ⟨rfl, hb⟩
    replace HW := hide (Below.step (unhide HW) hb)
    replace HO := hide (OwnV.step (unhide HO) hb)
    have f0 := (unhide HO).cell (i := 0) rfl
    have f1 := (unhide HO).cell (i := 1) rfl
    have f2 := (unhide HO).cell (i := 2) rfl
    have f3 := (unhide HO).cell (i := 3) rfl
    clear hb
    go_wp2_with fail
    refine (unhide HP2 _).mono ?_
    rintro e w3 ⟨rfl, hb⟩
    replace HW := hide (Below.step (unhide HW) hb)
    replace HO := hide (OwnV.step (unhide HO) hb)
    have g0 := (unhide HO).cell (i := 0) rfl
    have g1 := (unhide HO).cell (i := 1) rfl
    have g2 := (unhide HO).cell (i := 2) rfl
    have g3 := (unhide HO).cell (i := 3) rfl
    clear hb
    go_wp2_with (go_at_call 59; refine (l1In_any _ _ _ _).mono ?_; rintro e w' ⟨rfl, h9⟩; have h8 := h9.symm; subst h8; clear h9)
    refine bodyPost_ret (v := .tuple #[.int .i64 (-1), .bool false]) (by simp [results, Try.results36, go_sem]) rfl ⟨by rw [unhide HN], unhide HW⟩
  | true =>
  obtain ⟨xi, rfl, hxi⟩ : ∃ q : Nat, x = (q : Int) ∧ q < s.D.length := by
    unfold onB at h2
    obtain ⟨a, b⟩ := inB_true h2
    exact ⟨x.toNat, by omega, by omega⟩
  obtain ⟨yi, rfl, hyi⟩ : ∃ q : Nat, y = (q : Int) ∧ q < s.D.length := by
    unfold onB at h3
    obtain ⟨a, b⟩ := inB_true h3
    exact ⟨y.toNat, by omega, by omega⟩
  obtain ⟨zi, rfl, hzi⟩ : ∃ q : Nat, z = (q : Int) ∧ q ≤ 200 := by
    obtain ⟨a, b⟩ := inB_true h4
    exact ⟨z.toNat, by omega, by omega⟩
  have HY : Hid (quickest s (xi : Int) (yi : Int) (zi : Int) = quickOf s xi yi zi) := by show _ = _; unfold quickest quick0B; rw [h1, h2, h3, h4]; rfl
  obtain ⟨bd, od, rfl, hcd⟩ := unhide HDC xi hxi
  have e1 := ((unhide HW).cell (lt_of_cell hcd)).trans hcd
  have hxiI : (xi : Int) < s.D.length := by omega
  have hyiI : (yi : Int) < s.D.length := by omega
  have hle := hn.le
  have hleI : (s.D.length : Int) ≤ 144 := by omega
  obtain ⟨dx, edx⟩ : ∃ c, s.D.getD xi 0 = c := ⟨_, rfl⟩
  have hdx := (hn.cost xi hxi).1
  rw [edx] at e1 hdx
  have EDX := hide edx
  have HN := hide hn
  have hmk := run_make_recs (P := Try.prog) 90 4 _ 1 1 Try.underlying90 Try.infoBool7 .i64 .i64 s.D.length (by omega) (by omega)
  clear hcd edx hn
  go_enter Try.func36, Try.ntmps36
  go_wp2_with fail
  refine (unhide HOK).mono ?_
  rintro e w1 ⟨rfl, hb⟩
  have e2 := (hb.cell (lt_of_cell e1)).trans e1
  replace HW := hide (Below.step (unhide HW) hb)
  replace HO := hide (OwnV.step (unhide HO) hb)
  have b0 := (unhide HO).cell (i := 0) rfl
  have b1 := (unhide HO).cell (i := 1) rfl
  have b2 := (unhide HO).cell (i := 2) rfl
  have b3 := (unhide HO).cell (i := 3) rfl
  clear hb
  go_wp2_with fail
  refine (unhide HP1 _).mono ?_
  rintro e w2 ⟨rfl, hb⟩
  have e3 := (hb.cell (lt_of_cell e2)).trans e2
  replace HW := hide (Below.step (unhide HW) hb)
  replace HO := hide (OwnV.step (unhide HO) hb)
  have f0 := (unhide HO).cell (i := 0) rfl
  have f1 := (unhide HO).cell (i := 1) rfl
  have f2 := (unhide HO).cell (i := 2) rfl
  have f3 := (unhide HO).cell (i := 3) rfl
  clear hb
  go_wp2_with fail
  refine (unhide HP2 _).mono ?_
  rintro e w3 ⟨rfl, hb⟩
  have e4 := (hb.cell (lt_of_cell e3)).trans e3
  replace HW := hide (Below.step (unhide HW) hb)
  replace HO := hide (OwnV.step (unhide HO) hb)
  have g0 := (unhide HO).cell (i := 0) rfl
  have g1 := (unhide HO).cell (i := 1) rfl
  have g2 := (unhide HO).cell (i := 2) rfl
  have g3 := (unhide HO).cell (i := 3) rfl
  clear hb
  clear e1 e2 e3 b0 b1 b2 b3 f0 f1 f2 f3 HOK HP1 HP2
  go_upto_region 4 with (go_at_call 59; refine (l1In_any _ _ _ _).mono ?_; rintro e w' ⟨rfl, h9⟩; have h8 := h9.symm; subst h8; clear h9)
  have hgb : w.heap.size < w3.heap.size := (unhide HO).lt
  have HQ : Hid (Q2 w (w3.alloc (.cells (madeCells #[.bool false] s.D.length) 4)) [.int .i64 s.wd, .int .i64 s.hg, .slice (some ⟨bd, od, none⟩) s.D.length dc, .slice fao fn fc] w3.heap.size s.D.length (fun _ => false)) := ⟨Below.step (unhide HW) (Below.alloc1 _ _), (unhide HO).alloc _, by rw [← bo_made']; exact ownV_alloc _ _ _, hgb⟩
  have e5 := ((Below.alloc1 w3 (.cells (madeCells #[.bool false] s.D.length) 4)).cell (lt_of_cell e4)).trans e4
  obtain ⟨W0, eW⟩ : ∃ z, z = w3.alloc (.cells (madeCells #[.bool false] s.D.length) 4) := ⟨_, rfl⟩
  rw [← eW] at HQ e5 ⊢
  clear eW e4 g0 g1 g2 g3 HO HW h1 h2 h3 h4
  generalize w3.heap.size = gh at *
  go_cut [] (fun wx => Hid (Q2 w wx [.int .i64 s.wd, .int .i64 s.hg, .slice (some ⟨bd, od, none⟩) s.D.length dc, .slice fao fn fc] gh s.D.length (hereN s xi 0)))
  case first =>
    have a0 := (unhide HQ).ob.cell (i := 0) rfl
    have a1 := (unhide HQ).ob.cell (i := 1) rfl
    have a2 := (unhide HQ).ob.cell (i := 2) rfl
    have a3 := (unhide HQ).ob.cell (i := 3) rfl
    have cx := (unhide HQ).oh.cell (i := xi) (bo_at hxi)
    have fz := (unhide HQ).oh.frozen
    have HSH := hide (l7Shut_any s (xi : Int) 0 (.slice (some ⟨bd, od, none⟩) s.D.length dc) fao fn fc W0 (unhide HN) ((unhide HF).below (unhide HQ).below) (by omega) hxiI)
    unfold vSea at HSH
    clear hmk
    by_cases c1 : dx = 0
    · have EH : Hid (∀ i, i < s.D.length → (if i = xi then false else false) = hereN s xi 0 i) := fun i hi => by
        unfold hereN openB
        by_cases e : i = xi
        · rw [e, unhide EDX, decide_eq_true c1]; simp
        · rw [decide_eq_false e]; simp
      have d1 : decide (0 < dx) = false := by simp; omega
      subst c1
      go_wp2
      go_meet
      exact ((unhide HQ).put hxi false).cong (unhide EH)
    have d1 : decide (0 < dx) = true := by simp; omega
    have hdx0 : 0 < dx := by omega
    cases h5 : shutB s (xi : Int) 0
    all_goals
      rw [h5] at HSH
      have EH : Hid (∀ i, i < s.D.length → (if i = xi then !(shutB s (xi : Int) 0) else false) = hereN s xi 0 i) := fun i hi => by
        unfold hereN openB
        by_cases e : i = xi
        · rw [e, unhide EDX, decide_eq_false c1]; simp
        · rw [if_neg e, decide_eq_false e]; simp
      rw [h5] at EH
      go_wp2_with fail
      refine (unhide HSH).mono ?_
      rintro e w4 ⟨rfl, hb⟩
      replace HQ := hide ((unhide HQ).step hb)
      clear hb HSH cx fz
      have cx := (unhide HQ).oh.cell (i := xi) (bo_at hxi)
      have fz := (unhide HQ).oh.frozen
      go_wp2
      go_meet
      exact ((unhide HQ).put hxi _).cong (unhide EH)
  case rest =>
  replace HQ : Hid (Q2 w W0 [.int .i64 s.wd, .int .i64 s.hg, .slice (some ⟨bd, od, none⟩) s.D.length dc, .slice fao fn fc] gh s.D.length (fun _ => false)) := HQ
  clear HQ e5
  have HQ := hcut
  clear hcut
  go_wp2
  go_loopg [10, 11] (zi + 1) (fun g hv i wr => ∃ t : Nat, t ≤ zi + 1 ∧ g = zi + 1 - t ∧ i = .int .i64 t ∧ (∃ gh, hv = .slice (some ⟨gh, 0, none⟩) s.D.length s.D.length ∧ Hid (Q2 w wr [.int .i64 s.wd, .int .i64 s.hg, .slice (some ⟨bd, od, none⟩) s.D.length dc, .slice fao fn fc] gh s.D.length (hereN s xi t))) ∧ Hid (∀ r, r < t → hereN s xi r yi = false))
  case atStart => exact ⟨0, Nat.zero_le _, rfl, rfl, ⟨gh, rfl, HQ⟩, fun r hr => by omega⟩
  case round =>
    clear HQ hgb gh
    obtain ⟨t, ht, rfl, rfl, ⟨gh, rfl, HQ⟩, HS⟩ := hrel
    by_cases htz : t ≤ zi
    case neg =>
      have HR := hide ((unhide HY).trans (quickOf_no (fun r hr => unhide HS r (by omega))))
      have hti : ¬ (t : Int) ≤ (zi : Int) := by omega
      clear HS hmk
      go_wp2
      refine bodyPost_ret (v := .tuple #[.int .i64 (-1), .bool false]) (by simp [results, Try.results36, go_sem]) rfl ⟨by rw [unhide HR], (unhide HQ).below⟩
    have hti : (t : Int) ≤ (zi : Int) := by omega
    have ht200 : (t : Int) ≤ 200 := by omega
    have cy := (unhide HQ).oh.cell (i := yi) (bo_at hyi)
    cases hy : hereN s xi t yi with
    | true =>
      rw [hy] at cy
      have HR := hide ((unhide HY).trans (quickOf_yes htz (unhide HS) hy))
      clear HS hy hmk
      go_wp2
      refine bodyPost_ret (v := .tuple #[.int .i64 (t : Int), .bool true]) (by simp [results, Try.results36, go_sem]) rfl ⟨by rw [unhide HR], (unhide HQ).below⟩
    | false =>
      rw [hy] at cy
      have HS' : Hid (∀ r, r < t + 1 → hereN s xi r yi = false) := fun r hr => by
        by_cases e : r = t
        · rw [e]; exact hy
        · exact unhide HS r (by omega)
      have HNX := hide (fun r => nx_all s xi t r)
      clear HS hy
      generalize hereN s xi t = H at *
      have HQ3 := hide (((unhide HQ).made 4).cong (N' := nx s H t 0 0) (fun i _ => (nx_none s H t i).symm))
      go_upto_region 11 with (fail)
      obtain ⟨V0, eV⟩ : ∃ z, z = wr.alloc (.cells (madeCells #[.bool false] s.D.length) 4) := ⟨_, rfl⟩
      rw [← eV] at HQ3 ⊢
      clear eV HQ cy
      generalize wr.heap.size = gn at *
      clear wr
      go_wp2
      go_loopg [13] s.D.length (fun g i wr2 => ∃ p : Nat, p ≤ s.D.length ∧ g = s.D.length - p ∧ i = .int .i64 p ∧ Hid (Q3 w wr2 [.int .i64 s.wd, .int .i64 s.hg, .slice (some ⟨bd, od, none⟩) s.D.length dc, .slice fao fn fc] gh gn s.D.length H (nx s H t p 0)))
      case atStart => exact ⟨0, Nat.zero_le _, rfl, rfl, HQ3⟩
      case round =>
        clear HQ3
        obtain ⟨p, hp, rfl, rfl, HQ3⟩ := hrel
        by_cases hpn : p < s.D.length
        case neg =>
          have hpi : ¬ (p : Int) < s.D.length := by omega
          have hpp : p = s.D.length := by omega
          subst hpp
          have HQn := hide ((unhide HQ3).last.cong (fun i _ => unhide HNX i))
          clear HNX HQ3 hmk
          go_wp2
          go_roundg (zi + 1 - (t + 1))
          case measure => omega
          case rel => exact ⟨t + 1, by omega, rfl, by go_num, ⟨gn, rfl, HQn⟩, HS'⟩
        have hpi : (p : Int) < s.D.length := by omega
        go_wp2
        generalize wr = w6 at *
        go_loopg [14] s.D.length (fun g i wr3 => ∃ q : Nat, q ≤ s.D.length ∧ g = s.D.length - q ∧ i = .int .i64 q ∧ Hid (Q3 w wr3 [.int .i64 s.wd, .int .i64 s.hg, .slice (some ⟨bd, od, none⟩) s.D.length dc, .slice fao fn fc] gh gn s.D.length H (nx s H t p q)))
        case atStart => exact ⟨0, Nat.zero_le _, rfl, rfl, HQ3⟩
        case round =>
          clear HQ3
          obtain ⟨q, hq, rfl, rfl, HQ3⟩ := hrel
          by_cases hqn : q < s.D.length
          case neg =>
            have hqi : ¬ (q : Int) < s.D.length := by omega
            have HQn := hide ((unhide HQ3).cong (fun i hi => nx_row s H t p q (r := i) (fun _ => by omega)))
            clear HQ3 hmk
            go_wp2
            go_roundg (s.D.length - (p + 1))
            case measure => omega
            case rel => exact ⟨p + 1, by omega, rfl, by go_num, HQn⟩
          have hqi : (q : Int) < s.D.length := by omega
          have cp := (unhide HQ3).oh.cell (i := p) (bo_at hpn)
          cases hHp : H p with
          | false =>
            rw [hHp] at cp
            have HQn := hide ((unhide HQ3).cong (fun i hi => nx_row s H t p q (r := i) (fun h => by rw [hHp] at h; cases h)))
            clear HQ3 hmk
            go_wp2
            go_roundg (s.D.length - (p + 1))
            case measure => omega
            case rel => exact ⟨p + 1, by omega, rfl, by go_num, HQn⟩
          | true =>
            rw [hHp] at cp
            obtain ⟨bd', od', ed, hcd⟩ := unhide HDC q hqn
            simp only [Option.some.injEq, Addr.mk.injEq, and_true] at ed
            obtain ⟨rfl, rfl⟩ := ed
            have vD := wcell3 hcd (unhide HQ3).below
            obtain ⟨dq, edq⟩ : ∃ c, s.D.getD q 0 = c := ⟨_, rfl⟩
            have hdb2 := (unhide HN).cost q hqn
            rw [edq] at vD hdb2
            obtain ⟨hdb20, hdb21⟩ := hdb2
            have EDQ := hide edq
            clear hcd edq
            have i1 : IntKind.i64.wrap ((t : Int) + 1) = (t : Int) + 1 := by rw [IntKind.wrap_i64]; omega
            have a0 := (unhide HQ3).ob.cell (i := 0) rfl
            have a1 := (unhide HQ3).ob.cell (i := 1) rfl
            have a2 := (unhide HQ3).ob.cell (i := 2) rfl
            have a3 := (unhide HQ3).ob.cell (i := 3) rfl
            by_cases hqp : q = p
            · have HADJ : Hid (adjB s p q = true) := by show _ = _; unfold adjB; rw [decide_eq_true hqp]; rfl
              have d1 : ((q : Int) == (p : Int)) = true := by simp; omega
              have d1' : (q == p) = true := by simp; omega
              have d1'' : decide ((q : Int) = (p : Int)) = true := by simp; omega
              clear hqp
              by_cases c2 : dq = 0
              · have HNOT : Hid ((openB s q (t + 1) && adjB s p q) = false) := by show _ = _; unfold openB; rw [unhide EDQ, decide_eq_true c2]; rfl
                have d2 : decide (0 < dq) = false := by simp; omega
                subst c2
                clear hmk
                go_wp2
                go_roundg (s.D.length - (q + 1))
                case measure => omega
                case rel => exact ⟨q + 1, by omega, rfl, by go_num, hide ((unhide HQ3).cong (fun i _ => nx_no s H t p q (unhide HNOT) i))⟩
              have d2 : decide (0 < dq) = true := by simp; omega
              have hdq0 : 0 < dq := by omega
              have HSH := hide (l7Shut_any s (q : Int) ((t : Int) + 1) (.slice (some ⟨bd, od, none⟩) s.D.length dc) fao fn fc _ (unhide HN) ((unhide HF).below (unhide HQ3).below) (by omega) hqi)
              unfold vSea at HSH
              cases h6 : shutB s (q : Int) ((t : Int) + 1) with
              | true =>
                rw [h6] at HSH
                have HNOT : Hid ((openB s q (t + 1) && adjB s p q) = false) := by show _ = _; unfold openB; rw [show ((t + 1 : Nat) : Int) = (t : Int) + 1 by omega, h6]; simp
                clear hmk h6
                go_wp2_with fail
                refine (unhide HSH).mono ?_
                rintro e w8 ⟨rfl, hb⟩
                have vD8 := (hb.cell (lt_of_cell vD)).trans vD
                replace HQ3 := hide ((unhide HQ3).step hb)
                clear hb
                have h0 := (unhide HQ3).ob.cell (i := 0) rfl
                have h1 := (unhide HQ3).ob.cell (i := 1) rfl
                have h2 := (unhide HQ3).ob.cell (i := 2) rfl
                have h3 := (unhide HQ3).ob.cell (i := 3) rfl
                go_wp2
                go_roundg (s.D.length - (q + 1))
                case measure => omega
                case rel => exact ⟨q + 1, by omega, rfl, by go_num, hide ((unhide HQ3).cong (fun i _ => nx_no s H t p q (unhide HNOT) i))⟩
              | false =>
                rw [h6] at HSH
                have HOP : Hid (openB s q (t + 1) = true) := by show _ = _; unfold openB; rw [show ((t + 1 : Nat) : Int) = (t : Int) + 1 by omega, h6, unhide EDQ, decide_eq_false c2]; rfl
                clear hmk h6
                go_wp2_with fail
                refine (unhide HSH).mono ?_
                rintro e w8 ⟨rfl, hb⟩
                have vD8 := (hb.cell (lt_of_cell vD)).trans vD
                replace HQ3 := hide ((unhide HQ3).step hb)
                clear hb
                have h0 := (unhide HQ3).ob.cell (i := 0) rfl
                have h1 := (unhide HQ3).ob.cell (i := 1) rfl
                have h2 := (unhide HQ3).ob.cell (i := 2) rfl
                have h3 := (unhide HQ3).ob.cell (i := 3) rfl
                have cq := (unhide HQ3).on.cell (i := q) (bo_at hqn)
                have fz := (unhide HQ3).on.frozen
                have HQn := hide (((unhide HQ3).put hqn true).cong (fun i _ => nx_yes s H t p q hHp (unhide HOP) (unhide HADJ) i))
                clear HQ3
                go_wp2
                go_roundg (s.D.length - (q + 1))
                case measure => omega
                case rel => exact ⟨q + 1, by omega, rfl, by go_num, HQn⟩
            have d1 : ((q : Int) == (p : Int)) = false := by simp; omega
            have d1' : (q == p) = false := by simp; omega
            have HNE := hide hqp
            clear hqp
            have HNXT := hide (l7Next_any s (p : Int) (q : Int) (.slice (some ⟨bd, od, none⟩) s.D.length dc) (.slice fao fn fc) wr (unhide HN) (by omega) hpi (by omega) hqi)
            unfold vSea at HNXT
            cases h5 : nextB s.wd (p : Int) (q : Int) with
            | false =>
              rw [h5] at HNXT
              have HNOT : Hid ((openB s q (t + 1) && adjB s p q) = false) := by show _ = _; unfold adjB; rw [h5, decide_eq_false (unhide HNE)]; simp
              clear hmk h5
              go_wp2_with fail
              refine (unhide HNXT).mono ?_
              rintro e w7 ⟨rfl, hb⟩
              have vD7 := (hb.cell (lt_of_cell vD)).trans vD
              replace HQ3 := hide ((unhide HQ3).step hb)
              clear hb
              have f0 := (unhide HQ3).ob.cell (i := 0) rfl
              have f1 := (unhide HQ3).ob.cell (i := 1) rfl
              have f2 := (unhide HQ3).ob.cell (i := 2) rfl
              have f3 := (unhide HQ3).ob.cell (i := 3) rfl
              go_wp2
              go_roundg (s.D.length - (q + 1))
              case measure => omega
              case rel => exact ⟨q + 1, by omega, rfl, by go_num, hide ((unhide HQ3).cong (fun i _ => nx_no s H t p q (unhide HNOT) i))⟩
            | true =>
              rw [h5] at HNXT
              have HADJ : Hid (adjB s p q = true) := by show _ = _; unfold adjB; rw [h5]; simp
              clear h5
              go_wp2_with fail
              refine (unhide HNXT).mono ?_
              rintro e w7 ⟨rfl, hb⟩
              have vD7 := (hb.cell (lt_of_cell vD)).trans vD
              replace HQ3 := hide ((unhide HQ3).step hb)
              clear hb
              have f0 := (unhide HQ3).ob.cell (i := 0) rfl
              have f1 := (unhide HQ3).ob.cell (i := 1) rfl
              have f2 := (unhide HQ3).ob.cell (i := 2) rfl
              have f3 := (unhide HQ3).ob.cell (i := 3) rfl
              by_cases c2 : dq = 0
              · have HNOT : Hid ((openB s q (t + 1) && adjB s p q) = false) := by show _ = _; unfold openB; rw [unhide EDQ, decide_eq_true c2]; rfl
                have d2 : decide (0 < dq) = false := by simp; omega
                subst c2
                clear hmk
                go_wp2
                go_roundg (s.D.length - (q + 1))
                case measure => omega
                case rel => exact ⟨q + 1, by omega, rfl, by go_num, hide ((unhide HQ3).cong (fun i _ => nx_no s H t p q (unhide HNOT) i))⟩
              have d2 : decide (0 < dq) = true := by simp; omega
              have hdq0 : 0 < dq := by omega
              have HSH := hide (l7Shut_any s (q : Int) ((t : Int) + 1) (.slice (some ⟨bd, od, none⟩) s.D.length dc) fao fn fc _ (unhide HN) ((unhide HF).below (unhide HQ3).below) (by omega) hqi)
              unfold vSea at HSH
              cases h6 : shutB s (q : Int) ((t : Int) + 1) with
              | true =>
                rw [h6] at HSH
                have HNOT : Hid ((openB s q (t + 1) && adjB s p q) = false) := by show _ = _; unfold openB; rw [show ((t + 1 : Nat) : Int) = (t : Int) + 1 by omega, h6]; simp
                clear hmk h6
                go_wp2_with fail
                refine (unhide HSH).mono ?_
                rintro e w8 ⟨rfl, hb⟩
                have vD8 := (hb.cell (lt_of_cell vD7)).trans vD7
                replace HQ3 := hide ((unhide HQ3).step hb)
                clear hb
                have h0 := (unhide HQ3).ob.cell (i := 0) rfl
                have h1 := (unhide HQ3).ob.cell (i := 1) rfl
                have h2 := (unhide HQ3).ob.cell (i := 2) rfl
                have h3 := (unhide HQ3).ob.cell (i := 3) rfl
                go_wp2
                go_roundg (s.D.length - (q + 1))
                case measure => omega
                case rel => exact ⟨q + 1, by omega, rfl, by go_num, hide ((unhide HQ3).cong (fun i _ => nx_no s H t p q (unhide HNOT) i))⟩
              | false =>
                rw [h6] at HSH
                have HOP : Hid (openB s q (t + 1) = true) := by show _ = _; unfold openB; rw [show ((t + 1 : Nat) : Int) = (t : Int) + 1 by omega, h6, unhide EDQ, decide_eq_false c2]; rfl
                clear hmk h6
                go_wp2_with fail
                refine (unhide HSH).mono ?_
                rintro e w8 ⟨rfl, hb⟩
                have vD8 := (hb.cell (lt_of_cell vD7)).trans vD7
                replace HQ3 := hide ((unhide HQ3).step hb)
                clear hb
                have h0 := (unhide HQ3).ob.cell (i := 0) rfl
                have h1 := (unhide HQ3).ob.cell (i := 1) rfl
                have h2 := (unhide HQ3).ob.cell (i := 2) rfl
                have h3 := (unhide HQ3).ob.cell (i := 3) rfl
                have cq := (unhide HQ3).on.cell (i := q) (bo_at hqn)
                have fz := (unhide HQ3).on.frozen
                have HQn := hide (((unhide HQ3).put hqn true).cong (fun i _ => nx_yes s H t p q hHp (unhide HOP) (unhide HADJ) i))
                clear HQ3
                go_wp2
                go_roundg (s.D.length - (q + 1))
                case measure => omega
                case rel => exact ⟨q + 1, by omega, rfl, by go_num, HQn⟩

end Go.Proofs.Ytahgblhmdhjahaa
