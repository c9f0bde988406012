/- Contracts of the specification's l10Work, both WorkIn. -/
import Derived.Test.YticminoejikdfaaEnA
namespace Go.Proofs.Yticminoejikdfaa
open Go.RowKit

set_option maxRecDepth 10000 in
set_option maxHeartbeats 4000000 in
theorem l10Work_any (v : Value) (L : List I2) (a b : Int) (w : World) (h : R2 w v L) (hS : Sp L) (ha0 : 0 ≤ a) (ha1 : a ≤ 100000000) (hb0 : 0 ≤ b) (hb1 : b ≤ 100000000) :
    Calls Try.prog 48 #[v, .int .i64 a, .int .i64 b] w fun e w' => e = .returned (.int .i64 (wk L a b L.length)) ∧ Below w.heap.size w w' := by
  obtain ⟨ao, cap, rfl, hl, hm, hc⟩ := h
  unfold maxLen at hm
  have HC := hide hc
  have HS := hide hS
  have hn := hS.1
  clear hc hS
  go_enter Try.func48, Try.ntmps48
  go_wp2
  go_loopg [7, 8] L.length (fun g sv i wr => Hid (Below w.heap.size w wr) ∧ ∃ k : Nat, k ≤ L.length ∧ g = L.length - k ∧ i = .int .i64 k ∧ sv = .int .i64 (wk L a b k))
  case atStart => exact ⟨Below.refl _ _, 0, Nat.zero_le _, rfl, rfl, rfl⟩
  case round =>
    obtain ⟨HW, k, hk, rfl, rfl, rfl⟩ := hrel
    have hbd := wk_bd (unhide HS) a b k hk
    by_cases hkn : k < L.length
    · obtain ⟨b1, o, x, y, rfl, hx, hy, EX⟩ := rec2At (unhide HC) hkn
      have g0 := ((unhide HW).cell (lt_of_cell hx)).trans hx
      have g1 := ((unhide HW).cell (lt_of_cell hy)).trans hy
      have hki : (k : Int) < L.length := by omega
      obtain ⟨hx0, hxy, hy1, -⟩ := (unhide HS).2 k hkn
      unfold fr at hx0 hxy
      unfold tw at hxy hy1
      rw [unhide EX] at hx0 hxy hy1
      dsimp only at hx0 hxy hy1
      have EP : Hid (wk L a b (k + 1) = wk L a b k + max 0 (min y b - max x a)) := by show _ = _; rw [wk, unhide EX, pc]
      obtain ⟨S, eS⟩ : ∃ S, S = wk L a b k := ⟨_, rfl⟩
      rw [← eS] at hbd EP ⊢
      have hS1 : S ≤ 10000000000 := by omega
      clear hx hy EX eS
      by_cases h1 : x < a
      · by_cases h2 : b < y
        · by_cases h3 : a < b
          · go_wp2
            go_quiet (fail)
            go_wp2
            go_roundg (L.length - (k + 1))
            case measure => omega
            case rel => first | exact ⟨unhide HW, k + 1, by omega, rfl, by go_num, by rw [unhide EP]; congr 1; omega⟩ | exact ⟨below_drewN (unhide HW) _, k + 1, by omega, rfl, by go_num, by rw [unhide EP]; congr 1; omega⟩
          · go_wp2
            go_quiet (fail)
            go_wp2
            go_roundg (L.length - (k + 1))
            case measure => omega
            case rel => first | exact ⟨unhide HW, k + 1, by omega, rfl, by go_num, by rw [unhide EP]; congr 1; omega⟩ | exact ⟨below_drewN (unhide HW) _, k + 1, by omega, rfl, by go_num, by rw [unhide EP]; congr 1; omega⟩
        · by_cases h3 : a < y
          · go_wp2
            go_quiet (fail)
            go_wp2
            go_roundg (L.length - (k + 1))
            case measure => omega
            case rel => first | exact ⟨unhide HW, k + 1, by omega, rfl, by go_num, by rw [unhide EP]; congr 1; omega⟩ | exact ⟨below_drewN (unhide HW) _, k + 1, by omega, rfl, by go_num, by rw [unhide EP]; congr 1; omega⟩
          · go_wp2
            go_quiet (fail)
            go_wp2
            go_roundg (L.length - (k + 1))
            case measure => omega
            case rel => first | exact ⟨unhide HW, k + 1, by omega, rfl, by go_num, by rw [unhide EP]; congr 1; omega⟩ | exact ⟨below_drewN (unhide HW) _, k + 1, by omega, rfl, by go_num, by rw [unhide EP]; congr 1; omega⟩
      · by_cases h2 : b < y
        · by_cases h3 : x < b
          · go_wp2
            go_quiet (fail)
            go_wp2
            go_roundg (L.length - (k + 1))
            case measure => omega
            case rel => first | exact ⟨unhide HW, k + 1, by omega, rfl, by go_num, by rw [unhide EP]; congr 1; omega⟩ | exact ⟨below_drewN (unhide HW) _, k + 1, by omega, rfl, by go_num, by rw [unhide EP]; congr 1; omega⟩
          · go_wp2
            go_quiet (fail)
            go_wp2
            go_roundg (L.length - (k + 1))
            case measure => omega
            case rel => first | exact ⟨unhide HW, k + 1, by omega, rfl, by go_num, by rw [unhide EP]; congr 1; omega⟩ | exact ⟨below_drewN (unhide HW) _, k + 1, by omega, rfl, by go_num, by rw [unhide EP]; congr 1; omega⟩
        · go_wp2
          go_quiet (fail)
          go_wp2
          go_roundg (L.length - (k + 1))
          case measure => omega
          case rel => first | exact ⟨unhide HW, k + 1, by omega, rfl, by go_num, by rw [unhide EP]; congr 1; omega⟩ | exact ⟨below_drewN (unhide HW) _, k + 1, by omega, rfl, by go_num, by rw [unhide EP]; congr 1; omega⟩
    · obtain rfl : k = L.length := by omega
      go_wp2
      go_ret
      exact ⟨rfl, unhide HW⟩

def workOk (L : List I2) (a b : Int) : Prop := Sp L ∧ 0 ≤ a ∧ a ≤ b ∧ b ≤ 100000000
instance (L : List I2) (a b : Int) : Decidable (workOk L a b) := by unfold workOk; infer_instance
def workV (L : List I2) (a b : Int) : Int := if workOk L a b then wk L a b L.length else 0
theorem workV_not {L : List I2} {a b : Int} (h : ¬ workOk L a b) : workV L a b = 0 := if_neg h
theorem spB_iff {L : List I2} : spB L = true ↔ Sp L := by simp [spB]
theorem spB_not {L : List I2} (h : spB L = false) : ¬ Sp L := by simpa [spB] using h

set_option maxRecDepth 10000 in
set_option maxHeartbeats 4000000 in
theorem specWorkIn_any (v : Value) (L : List I2) (a b : Int) (w : World) (h : R2 w v L) :
    Calls Try.prog 18 #[v, .int .i64 a, .int .i64 b] w fun e w' => e = .returned (.int .i64 (workV L a b)) ∧ Below w.heap.size w w' := by
  have HV := hide h
  obtain ⟨ao, cap, rfl, hl, hm, hc⟩ := h
  unfold maxLen at hm
  clear hc
  have HQ := hide fun V (hV : Below w.heap.size w V) => specSpellsOk_any _ L V ((unhide HV).below hV)
  have HK := hide fun V (hV : Below w.heap.size w V) hS => l10Work_any _ L a b V ((unhide HV).below hV) hS
  cases hsp : spB L with
  | false =>
    rw [hsp] at HQ
    have HF : Hid (workV L a b = 0) := workV_not fun h => spB_not hsp h.1
    clear hsp
    go_enter Try.func18, Try.ntmps18
    go_wp2_with fail
    refine (unhide HQ _ (Below.refl _ _)).mono ?_
    rintro e w1 ⟨rfl, hb1⟩
    have HW := hide hb1
    clear hb1
    go_wp2
    go_ret
    exact ⟨by rw [unhide HF]; rfl, unhide HW⟩
  | true =>
    rw [hsp] at HQ
    have HS := hide (spB_iff.1 hsp)
    clear hsp
    by_cases hok : 0 ≤ a ∧ a ≤ b ∧ b ≤ 100000000
    · obtain ⟨h1, h2, h3⟩ := hok
      have HF : Hid (workV L a b = wk L a b L.length) := if_pos ⟨unhide HS, h1, h2, h3⟩
      have i1 : inB a 0 100000000 = true := by simp [inB]; omega
      have i2 : inB b 0 100000000 = true := by simp [inB]; omega
      have Q1 := hide fun V => l1Minute_any a V
      have Q2 := hide fun V => l1Minute_any b V
      rw [i1] at Q1
      rw [i2] at Q2
      clear i1 i2
      go_enter Try.func18, Try.ntmps18
      go_wp2_with fail
      refine (unhide HQ _ (Below.refl _ _)).mono ?_
      rintro e w1 ⟨rfl, hb1⟩
      have HW := hide hb1
      clear hb1
      go_wp2_with fail
      refine (unhide Q1 _).mono ?_
      rintro e w' ⟨rfl, h9⟩
      have h8 := h9.symm
      subst h8
      clear h9
      go_wp2_with fail
      refine (unhide Q2 _).mono ?_
      rintro e w' ⟨rfl, h9⟩
      have h8 := h9.symm
      subst h8
      clear h9
      go_wp2_with fail
      refine (unhide HK _ (unhide HW) (unhide HS) h1 (by omega) (by omega) h3).mono ?_
      rintro e w2 ⟨rfl, hb2⟩
      replace HW := hide (Below.step (unhide HW) hb2)
      clear hb2
      go_wp2
      go_ret
      exact ⟨by rw [unhide HF]; rfl, unhide HW⟩
    · have HF : Hid (workV L a b = 0) := workV_not fun h => hok ⟨h.2.1, h.2.2.1, h.2.2.2⟩
      have Q1 := hide fun V => l1Minute_any a V
      have Q2 := hide fun V => l1Minute_any b V
      cases i1 : inB a 0 100000000 with
      | false =>
        rw [i1] at Q1
        clear i1 hok
        go_enter Try.func18, Try.ntmps18
        go_wp2_with fail
        refine (unhide HQ _ (Below.refl _ _)).mono ?_
        rintro e w1 ⟨rfl, hb1⟩
        have HW := hide hb1
        clear hb1
        go_wp2_with fail
        refine (unhide Q1 _).mono ?_
        rintro e w' ⟨rfl, h9⟩
        have h8 := h9.symm
        subst h8
        clear h9
        go_wp2
        go_ret
        exact ⟨by rw [unhide HF]; rfl, unhide HW⟩
      | true =>
        rw [i1] at Q1
        have j1 : 0 ≤ a ∧ a ≤ 100000000 := by simpa [inB] using i1
        clear i1
        cases i2 : inB b 0 100000000 with
        | false =>
          rw [i2] at Q2
          clear i2 hok
          go_enter Try.func18, Try.ntmps18
          go_wp2_with fail
          refine (unhide HQ _ (Below.refl _ _)).mono ?_
          rintro e w1 ⟨rfl, hb1⟩
          have HW := hide hb1
          clear hb1
          go_wp2_with fail
          refine (unhide Q1 _).mono ?_
          rintro e w' ⟨rfl, h9⟩
          have h8 := h9.symm
          subst h8
          clear h9
          go_wp2_with fail
          refine (unhide Q2 _).mono ?_
          rintro e w' ⟨rfl, h9⟩
          have h8 := h9.symm
          subst h8
          clear h9
          go_wp2
          go_ret
          exact ⟨by rw [unhide HF]; rfl, unhide HW⟩
        | true =>
          rw [i2] at Q2
          have j2 : 0 ≤ b ∧ b ≤ 100000000 := by simpa [inB] using i2
          have h3 : b < a := by omega
          clear i2 hok
          go_enter Try.func18, Try.ntmps18
          go_wp2_with fail
          refine (unhide HQ _ (Below.refl _ _)).mono ?_
          rintro e w1 ⟨rfl, hb1⟩
          have HW := hide hb1
          clear hb1
          go_wp2_with fail
          refine (unhide Q1 _).mono ?_
          rintro e w' ⟨rfl, h9⟩
          have h8 := h9.symm
          subst h8
          clear h9
          go_wp2_with fail
          refine (unhide Q2 _).mono ?_
          rintro e w' ⟨rfl, h9⟩
          have h8 := h9.symm
          subst h8
          clear h9
          go_wp2
          go_ret
          exact ⟨by rw [unhide HF]; rfl, unhide HW⟩

end Go.Proofs.Yticminoejikdfaa
