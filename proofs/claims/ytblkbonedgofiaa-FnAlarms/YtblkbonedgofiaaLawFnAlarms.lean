/- FnAlarms, walked: an alarm goes on only where its last measurements are all high, and off only where they are all low. Written by wip/mkfal.py. -/
import Derived.Test.YtblkbonedgofiaaEnI
import Derived.Test.YtblkbonedgofiaaEnH
import Derived.Test.YtblkbonedgofiaaAlM
import Derived.Test.YtblkbonedgofiaaAtFix
import Derived.Deep.QuietTactic
import Derived.BigQuiet
namespace Go.Proofs.Ytblkbonedgofiaa
open Go.RowKit

theorem alL_get (hi lo ho : Int) (xs : List Int) {n i : Nat} (h : i < n) (d : Bool) : (alL hi lo ho xs n).getD i d = (alS hi lo ho xs (i + 1)).1 := by
  simp [alL, List.getD, h]
theorem alarmB_true {hi lo ho : Int} {xs : List Int} (h : alarmB hi lo ho xs = true) : -1000000 ≤ hi ∧ hi ≤ 1000000 ∧ -1000000 ≤ lo ∧ lo ≤ 1000000 ∧ 1 ≤ ho ∧ ho ≤ 100 ∧ xs.length ≤ 500 := by
  simp [alarmB, ruleB, inB] at h
  omega

set_option maxRecDepth 100000 in
set_option maxHeartbeats 8000000 in
theorem lawFnAlarms_any (v : Value) (n : Nat) (w : World) (h : BytesIn w.heap.size w v n) : Calls Try.prog 4 #[v] w fun e w' => e = .returned (.bool true) ∧ Below w.heap.size w w' := by
  have HV := hide h
  obtain ⟨ao, cap, rfl, h1, h2, -⟩ := h
  unfold maxLen at h2
  by_cases hbig : 1048576 < (n : Int)
  · go_enter Try.func4, Try.ntmps4
    go_wp2_with (go_at_call 11; refine (big_any _ _ _ _).mono ?_; rintro e w' ⟨rfl, rfl⟩)
    go_ret
    exact ⟨rfl, Below.refl _ _⟩
  have hn : n ≤ 1048576 := by omega
  have HD := hide (drawAlarms_any _ n w (unhide HV) hn)
  go_enter Try.func4, Try.ntmps4
  go_wp2_with (go_at_call 11; refine (big_any _ _ _ _).mono ?_; rintro e w' ⟨rfl, rfl⟩)
  refine (unhide HD).mono ?_
  rintro e w1 ⟨hi, lo, ho, xs, xa, xm, xcp, rfl, hI, hb⟩
  have A1 := Below.alloc1 w1 (.cells #[.int .i64 hi, .int .i64 lo, .int .i64 ho] 34)
  have HX := hide (ownV_alloc w1 #[.int .i64 hi, .int .i64 lo, .int .i64 ho] 34)
  have HI := hide (hI.below A1)
  have HW := hide (Below.step hb A1)
  have HM := hide fun V hV => implAlarms_any hi lo ho (.slice xa xm xcp) xs V hV
  have HS := hide fun V hV => specAlarms_any hi lo ho (.slice xa xm xcp) xs V hV
  have hml : xm = xs.length := by
    obtain ⟨a', c', e', -⟩ := hI
    simp only [Value.slice.injEq] at e'
    exact e'.2.1
  subst hml
  unfold v3 at HM HS ⊢
  clear A1 hI hb HD HV
  have c0 := (unhide HX).cell (i := 0) rfl
  have c1 := (unhide HX).cell (i := 1) rfl
  have c2 := (unhide HX).cell (i := 2) rfl
  go_wp2_with fail
  refine (unhide HM _ (unhide HI)).mono ?_
  rintro e w2 ⟨ta, tn, tcp, rfl, hO, hb⟩
  have HT := hide hO.intsIn
  replace HI := hide ((unhide HI).below hb)
  replace HX := hide ((unhide HX).step hb)
  replace HW := hide (Below.step (unhide HW) hb)
  obtain ⟨gR, egR⟩ : ∃ b, b = w1.heap.size := ⟨_, rfl⟩
  rw [← egR] at HX ⊢
  clear hO hb HM c0 c1 c2 egR
  have c0 := (unhide HX).cell (i := 0) rfl
  have c1 := (unhide HX).cell (i := 1) rfl
  have c2 := (unhide HX).cell (i := 2) rfl
  go_wp2_with fail
  refine (unhide HS _ (unhide HI)).mono ?_
  rintro e w3 ⟨sa, sn, scp, rfl, -, hb⟩
  replace HI := hide ((unhide HI).below hb)
  replace HX := hide ((unhide HX).step hb)
  replace HW := hide (Below.step (unhide HW) hb)
  replace HT := hide ((unhide HT).below hb)
  clear hb HS c0 c1 c2
  have hty : tn = (alarmL hi lo ho xs).length := by
    obtain ⟨a', c', e', -⟩ := unhide HT
    simp only [Value.slice.injEq] at e'
    exact e'.2.1
  cases hB : alarmB hi lo ho xs with
  | false =>
    have htl : tn = 0 := by rw [hty, alarmL, hB]; rfl
    subst htl
    clear hty hB
    go_wp2
    go_ret
    exact ⟨rfl, unhide HW⟩
  | true =>
    obtain ⟨b1, b2, b3, b4, b5, b6, b7⟩ := alarmB_true hB
    have EL : alarmL hi lo ho xs = alL hi lo ho xs xs.length := by rw [alarmL, hB]; rfl
    rw [EL] at HT hty
    rw [alL_len] at hty
    subst hty
    clear hB EL
    have HCX : Hid (∀ i, i < xs.length → ∃ b o, xa = some ⟨b, o, none⟩ ∧ w3.cell? ⟨b, o + i, none⟩ = some (.int .i64 (xs.getD i 0))) := by
      obtain ⟨a', c', e', -, -, h9⟩ := unhide HI
      simp only [Value.slice.injEq] at e'
      rw [e'.1]
      exact h9
    have HCT : Hid (∀ i, i < xs.length → ∃ b o, ta = some ⟨b, o, none⟩ ∧ w3.cell? ⟨b, o + i, none⟩ = some (.bool (alS hi lo ho xs (i + 1)).1)) := by
      obtain ⟨a', c', e', -, -, h9⟩ := unhide HT
      simp only [Value.slice.injEq] at e'
      intro i hi9
      obtain ⟨b, o, e1, e2⟩ := h9 i (by rw [alL_len]; exact hi9)
      rw [alL_get _ _ _ _ hi9] at e2
      exact ⟨b, o, by rw [e'.1]; exact e1, e2⟩
    clear HT HI
    have hxx : ((xs.length : Int) == (xs.length : Int)) = true := by simp
    have hxn : ((xs.length : Int) != (xs.length : Int)) = false := by simp
    have c0 := (unhide HX).cell (i := 0) rfl
    have c1 := (unhide HX).cell (i := 1) rfl
    have c2 := (unhide HX).cell (i := 2) rfl
    clear HX
    go_wp2
    go_loopg [9, 10] xs.length (fun g av iv wr => ∃ q, wr = w3.drewN q ∧ ∃ i : Nat, i ≤ xs.length ∧ g = xs.length - i ∧ iv = .int .i64 i ∧ av = .bool (alS hi lo ho xs i).1)
    case atStart => exact ⟨0, rfl, 0, Nat.zero_le _, rfl, rfl, rfl⟩
    case round =>
      obtain ⟨q, hq, i, hi0, rfl, rfl, rfl⟩ := hrel
      by_cases hin : i < xs.length
      · have hini : (i : Int) < xs.length := by omega
        obtain ⟨tb, to, rfl, tcell⟩ := unhide HCT i hin
        have k0 : wr.cell? ⟨gR, 0, none⟩ = some (.int .i64 hi) := by rw [hq]; exact c0
        have k1 : wr.cell? ⟨gR, 1, none⟩ = some (.int .i64 lo) := by rw [hq]; exact c1
        have k2 : wr.cell? ⟨gR, 2, none⟩ = some (.int .i64 ho) := by rw [hq]; exact c2
        have HQ := hide hq
        have TC := hide tcell
        have ES : Hid (∀ H L, H = decide (ho ≤ (alS hi lo ho xs (i + 1)).2.1) → L = decide (ho ≤ (alS hi lo ho xs (i + 1)).2.2) → (alS hi lo ho xs (i + 1)).1 = if (alS hi lo ho xs i).1 then !L else H) := fun H L => alS_step hi lo ho xs i H L
        generalize (alS hi lo ho xs i).1 = was at *
        clear hq tcell
        go_wp2
        go_quiet (fail)
        go_wp2
        generalize wr = wo at *
        go_loopg [11, 12, 13] (i + 1) (fun g hv lv kv wr => ∃ q, wr = w3.drewN q ∧ ∃ j : Nat, (j : Int) ≤ ho ∧ j ≤ i + 1 ∧ g = i + 1 - j ∧ kv = .int .i64 ((i : Int) - (j : Int)) ∧ hv = .bool (backB (fun x => decide (hi ≤ x)) ho xs i j) ∧ lv = .bool (backB (fun x => decide (x ≤ lo)) ho xs i j))
        case atStart => exact ⟨_, by rw [unhide HQ]; simp only [World.drewN_drewN]; rfl, 0, by omega, by omega, rfl, by simp, by rw [backB_zero], by rw [backB_zero]⟩
        case round =>
          clear k0 k1 k2 HQ
          obtain ⟨q2, hq, j, hj0, hj1, rfl, rfl, rfl, rfl⟩ := hrel
          have k0 : wr.cell? ⟨gR, 0, none⟩ = some (.int .i64 hi) := by rw [hq]; exact c0
          have k1 : wr.cell? ⟨gR, 1, none⟩ = some (.int .i64 lo) := by rw [hq]; exact c1
          have k2 : wr.cell? ⟨gR, 2, none⟩ = some (.int .i64 ho) := by rw [hq]; exact c2
          have HQ := hide hq
          by_cases hgo : (j : Int) < ho ∧ j < i + 1
          · obtain ⟨g1, g2⟩ := hgo
            obtain ⟨kk, ekk⟩ : ∃ kk : Nat, (i : Int) - (j : Int) = kk := ⟨i - j, by omega⟩
            have kk1 : kk < xs.length := by omega
            have kk2 : (kk : Int) < xs.length := by omega
            have ekn : i - j = kk := by omega
            obtain ⟨xb, xo, rfl, xcell⟩ := unhide HCX kk kk1
            have cx : wr.cell? ⟨xb, xo + kk, none⟩ = some (.int .i64 (xs.getD kk 0)) := by rw [hq]; exact xcell
            have E1 := hide (backB_next (fun x => decide (hi ≤ x)) ho xs i j)
            have E2 := hide (backB_next (fun x => decide (x ≤ lo)) ho xs i j)
            rw [ekn] at E1 E2
            rw [ekk]
            have w1' : (i : Int) - ho < kk := by omega
            have EK := hide ekk
            have d1 : decide ((i : Int) - ho < (kk : Int)) = true := decide_eq_true w1'
            have d2 : decide ((0 : Int) ≤ (kk : Int)) = true := decide_eq_true (by omega)
            generalize xs.getD kk 0 = x at *
            generalize backB (fun x => decide (hi ≤ x)) ho xs i j = hb at *
            generalize backB (fun x => decide (x ≤ lo)) ho xs i j = lb at *
            have EN := hide ekn
            clear hq xcell ekk ekn
            cases hb <;> cases lb
            all_goals
              go_wp2
              go_quiet (fail)
              go_wp2
              go_quiet (fail)
              go_wp2
              go_roundg (i + 1 - (j + 1))
              case measure => omega
              case rel => exact ⟨_, by rw [unhide HQ]; simp only [World.drewN_drewN]; rfl, j + 1, by omega, by omega, rfl, by congr 1; have := unhide EK; omega, by rw [unhide E1]; rfl, by rw [unhide E2]; rfl⟩
          · have hst : (j : Int) = ho ∨ (j = i + 1 ∧ (i : Int) + 1 < ho) := by omega
            have E1 := back_high hi lo ho xs i j b5 hst
            have E2 := back_low hi lo ho xs i j b5 hst
            have EF := unhide ES _ _ E1 E2
            have tc : wr.cell? ⟨tb, to + i, none⟩ = some (.bool (alS hi lo ho xs (i + 1)).1) := by rw [hq]; exact unhide TC
            rw [EF] at tc
            have HEF := hide EF
            clear E1 E2 EF hst ES TC hq
            generalize backB (fun x => decide (hi ≤ x)) ho xs i j = hb at *
            generalize backB (fun x => decide (x ≤ lo)) ho xs i j = lb at *
            by_cases hjo : (j : Int) = ho
            · have d1 : decide ((i : Int) - ho < (i : Int) - (j : Int)) = false := decide_eq_false (by omega)
              cases was <;> cases hb <;> cases lb
              · have t2 : wr.cell? ⟨tb, to + i, none⟩ = some (.bool false) := tc
                clear tc
                go_wp2
                go_roundg (xs.length - (i + 1))
                case measure => omega
                case rel => exact ⟨q2, unhide HQ, i + 1, by omega, rfl, by go_num, by rw [unhide HEF]; rfl⟩
              · have t2 : wr.cell? ⟨tb, to + i, none⟩ = some (.bool false) := tc
                clear tc
                go_wp2
                go_roundg (xs.length - (i + 1))
                case measure => omega
                case rel => exact ⟨q2, unhide HQ, i + 1, by omega, rfl, by go_num, by rw [unhide HEF]; rfl⟩
              · have t2 : wr.cell? ⟨tb, to + i, none⟩ = some (.bool true) := tc
                clear tc
                go_wp2
                go_roundg (xs.length - (i + 1))
                case measure => omega
                case rel => exact ⟨q2, unhide HQ, i + 1, by omega, rfl, by go_num, by rw [unhide HEF]; rfl⟩
              · have t2 : wr.cell? ⟨tb, to + i, none⟩ = some (.bool true) := tc
                clear tc
                go_wp2
                go_roundg (xs.length - (i + 1))
                case measure => omega
                case rel => exact ⟨q2, unhide HQ, i + 1, by omega, rfl, by go_num, by rw [unhide HEF]; rfl⟩
              · have t2 : wr.cell? ⟨tb, to + i, none⟩ = some (.bool true) := tc
                clear tc
                go_wp2
                go_roundg (xs.length - (i + 1))
                case measure => omega
                case rel => exact ⟨q2, unhide HQ, i + 1, by omega, rfl, by go_num, by rw [unhide HEF]; rfl⟩
              · have t2 : wr.cell? ⟨tb, to + i, none⟩ = some (.bool false) := tc
                clear tc
                go_wp2
                go_roundg (xs.length - (i + 1))
                case measure => omega
                case rel => exact ⟨q2, unhide HQ, i + 1, by omega, rfl, by go_num, by rw [unhide HEF]; rfl⟩
              · have t2 : wr.cell? ⟨tb, to + i, none⟩ = some (.bool true) := tc
                clear tc
                go_wp2
                go_roundg (xs.length - (i + 1))
                case measure => omega
                case rel => exact ⟨q2, unhide HQ, i + 1, by omega, rfl, by go_num, by rw [unhide HEF]; rfl⟩
              · have t2 : wr.cell? ⟨tb, to + i, none⟩ = some (.bool false) := tc
                clear tc
                go_wp2
                go_roundg (xs.length - (i + 1))
                case measure => omega
                case rel => exact ⟨q2, unhide HQ, i + 1, by omega, rfl, by go_num, by rw [unhide HEF]; rfl⟩
            · have d1 : decide ((i : Int) - ho < (i : Int) - (j : Int)) = true := decide_eq_true (by omega)
              have d1' : (i : Int) - ho < (i : Int) - (j : Int) := by omega
              have d2 : decide ((0 : Int) ≤ (i : Int) - (j : Int)) = false := decide_eq_false (by omega)
              cases was <;> cases hb <;> cases lb
              · have t2 : wr.cell? ⟨tb, to + i, none⟩ = some (.bool false) := tc
                clear tc
                go_wp2
                go_roundg (xs.length - (i + 1))
                case measure => omega
                case rel => exact ⟨q2, unhide HQ, i + 1, by omega, rfl, by go_num, by rw [unhide HEF]; rfl⟩
              · have t2 : wr.cell? ⟨tb, to + i, none⟩ = some (.bool false) := tc
                clear tc
                go_wp2
                go_roundg (xs.length - (i + 1))
                case measure => omega
                case rel => exact ⟨q2, unhide HQ, i + 1, by omega, rfl, by go_num, by rw [unhide HEF]; rfl⟩
              · have t2 : wr.cell? ⟨tb, to + i, none⟩ = some (.bool true) := tc
                clear tc
                go_wp2
                go_roundg (xs.length - (i + 1))
                case measure => omega
                case rel => exact ⟨q2, unhide HQ, i + 1, by omega, rfl, by go_num, by rw [unhide HEF]; rfl⟩
              · have t2 : wr.cell? ⟨tb, to + i, none⟩ = some (.bool true) := tc
                clear tc
                go_wp2
                go_roundg (xs.length - (i + 1))
                case measure => omega
                case rel => exact ⟨q2, unhide HQ, i + 1, by omega, rfl, by go_num, by rw [unhide HEF]; rfl⟩
              · have t2 : wr.cell? ⟨tb, to + i, none⟩ = some (.bool true) := tc
                clear tc
                go_wp2
                go_roundg (xs.length - (i + 1))
                case measure => omega
                case rel => exact ⟨q2, unhide HQ, i + 1, by omega, rfl, by go_num, by rw [unhide HEF]; rfl⟩
              · have t2 : wr.cell? ⟨tb, to + i, none⟩ = some (.bool false) := tc
                clear tc
                go_wp2
                go_roundg (xs.length - (i + 1))
                case measure => omega
                case rel => exact ⟨q2, unhide HQ, i + 1, by omega, rfl, by go_num, by rw [unhide HEF]; rfl⟩
              · have t2 : wr.cell? ⟨tb, to + i, none⟩ = some (.bool true) := tc
                clear tc
                go_wp2
                go_roundg (xs.length - (i + 1))
                case measure => omega
                case rel => exact ⟨q2, unhide HQ, i + 1, by omega, rfl, by go_num, by rw [unhide HEF]; rfl⟩
              · have t2 : wr.cell? ⟨tb, to + i, none⟩ = some (.bool false) := tc
                clear tc
                go_wp2
                go_roundg (xs.length - (i + 1))
                case measure => omega
                case rel => exact ⟨q2, unhide HQ, i + 1, by omega, rfl, by go_num, by rw [unhide HEF]; rfl⟩
      · have hee : i = xs.length := by omega
        subst hee
        subst hq
        go_wp2
        go_ret
        exact ⟨rfl, below_drewN (unhide HW) _⟩

end Go.Proofs.Ytblkbonedgofiaa
