/- Shaped pushes in numbers; the program's Shaped. -/
import Derived.Test.YtkfdcpnbpmipkaaHoA
import Derived.Test.YtkfdcpnbpmipkaaWalkJ
import Derived.Test.YtkfdcpnbpmipkaaCpInt
import Derived.Deep.DeepCutAuto
namespace Go.Proofs.Ytkfdcpnbpmipkaa
open Go.RowKit

/-- Half of push i. -/
def hv (L : List Int) (i : Nat) : Int := (L.getD i 0).tdiv 2
def okPu (x : Int) : Bool := inB x (-1000) 1000 && (x.tmod 2 == 0)
def puOk (L : List Int) : Bool := decide (L.length ≤ 38) && L.all okPu
/-- The row behind k pushes. -/
def puF (L : List Int) (k j : Nat) : Int := (if j < k then hv L j else 0) + (if 2 ≤ j ∧ j - 2 < k then hv L (j - 2) else 0)
def puV (L : List Int) (k : Nat) : List Int := (List.range (L.length + 2)).map (puF L k)
def puL (L : List Int) : List Int := bif puOk L then puV L L.length else []
theorem puV_len (L : List Int) (k : Nat) : (puV L k).length = L.length + 2 := by simp [puV]
theorem puL_len (L : List Int) : (puL L).length ≤ 40 := by
  unfold puL
  cases h : puOk L with
  | false => simp
  | true =>
    rw [cond_true, puV_len]
    unfold puOk at h
    rw [Bool.and_eq_true, decide_eq_true_eq] at h
    omega
theorem puV_at (L : List Int) (k : Nat) {j : Nat} (h : j < L.length + 2) : (ints (puV L k))[j]? = some (.int .i64 (puF L k j)) := by
  simp [ints, puV, h]
theorem puF_here (L : List Int) (k : Nat) : puF L k (k + 2) = 0 := by unfold puF; rw [if_neg (by omega), if_neg (by omega)]; rfl
theorem hv_bd {L : List Int} {i : Nat} (h : okPu (L.getD i 0) = true) : -500 ≤ hv L i ∧ hv L i ≤ 500 := by
  unfold okPu at h
  rw [Bool.and_eq_true] at h
  have h1 := inB_true h.1
  unfold hv
  rcases Int.le_total 0 (L.getD i 0) with hp | hp
  · rw [Int.tdiv_eq_ediv_of_nonneg hp]; omega
  · have e : L.getD i 0 = -(-(L.getD i 0)) := by omega
    rw [e, Int.neg_tdiv, Int.tdiv_eq_ediv_of_nonneg (by omega)]
    omega
theorem puF_bd {L : List Int} {k : Nat} (h : ∀ i, i < k → okPu (L.getD i 0) = true) (j : Nat) : -1000 ≤ puF L k j ∧ puF L k j ≤ 1000 := by
  unfold puF
  split <;> split
  · have := hv_bd (h j (by omega)); have := hv_bd (h (j - 2) (by omega)); omega
  · have := hv_bd (h j (by omega)); omega
  · have := hv_bd (h (j - 2) (by omega)); omega
  · omega
theorem sh_next (L : List Int) (k : Nat) : ((ints (puV L k)).set k (.int .i64 (puF L k k + hv L k))).set (k + 2) (.int .i64 (0 + hv L k)) = ints (puV L (k + 1)) := by
  apply List.ext_getElem?
  intro j
  by_cases hj : j < L.length + 2
  · rw [puV_at L (k + 1) hj, List.getElem?_set, List.getElem?_set]
    have hl : (ints (puV L k)).length = L.length + 2 := by simp [ints, puV]
    by_cases h1 : k + 2 = j
    · subst h1
      rw [if_pos rfl, if_pos (by rw [List.length_set, hl]; omega)]
      unfold puF
      rw [if_neg (by omega), if_pos (by omega)]
      simp
    · rw [if_neg h1]
      by_cases h2 : k = j
      · subst h2
        rw [if_pos rfl, if_pos (by rw [hl]; omega)]
        congr 2
        unfold puF
        rw [if_neg (show ¬ k < k by omega), if_pos (show k < k + 1 by omega)]
        by_cases h3 : 2 ≤ k ∧ k - 2 < k
        · rw [if_pos h3, if_pos (show 2 ≤ k ∧ k - 2 < k + 1 by omega)]; omega
        · rw [if_neg h3, if_neg (show ¬ (2 ≤ k ∧ k - 2 < k + 1) by omega)]; omega
      · rw [if_neg h2, puV_at L k hj]
        congr 2
        unfold puF
        have e1 : (j < k + 1) = (j < k) := by apply propext; omega
        have e2 : (2 ≤ j ∧ j - 2 < k + 1) = (2 ≤ j ∧ j - 2 < k) := by apply propext; omega
        simp only [e1, e2]
  · rw [List.getElem?_eq_none (by simp [ints, puV]; omega), List.getElem?_eq_none (by simp [ints, puV]; omega)]
theorem sh_zero (L : List Int) : puV L 0 = List.replicate (L.length + 2) 0 := by
  apply List.ext_getElem?
  intro j
  by_cases hj : j < L.length + 2
  · simp [puV, puF, hj]
  · simp [puV, hj]
theorem made_sh (L : List Int) : (madeCells #[Value.int .i64 0] (L.length + 2)).toList = ints (puV L 0) := by
  rw [sh_zero]
  apply List.ext_getElem?
  intro i
  by_cases h : i < L.length + 2
  · simp [madeCells, ints, h, Nat.mod_one]
  · simp [madeCells, ints, h]
theorem isEven_any (x : Int) (w : World) (hx : -10000 ≤ x ∧ x ≤ 10000) : Calls Try.prog 23 #[.int .i64 x] w fun e w' => e = .returned (.bool (x.tmod 2 == 0)) ∧ w' = w := by
  have hw : IntKind.i64.wrap (x.tmod 2) = x.tmod 2 := by
    rw [IntKind.wrap_i64]
    rcases Int.le_total 0 x with hp | hp
    · rw [Int.tmod_eq_emod_of_nonneg hp]; omega
    · have e : x = -(-x) := by omega
      rw [e, Int.neg_tmod, Int.tmod_eq_emod_of_nonneg (by omega)]
      omega
  obtain ⟨r, er⟩ : ∃ z, z = x.tmod 2 := ⟨_, rfl⟩
  rw [← er] at hw ⊢
  have er2 := er.symm
  clear er
  go_enter Try.func23, Try.ntmps23
  go_wp2
  go_ret
  exact ⟨rfl, rfl⟩

set_option maxRecDepth 100000 in
set_option maxHeartbeats 8000000 in
theorem implShaped_any (v : Value) (L : List Int) (w : World) (h : IntsIn w v L) :
    Calls Try.prog 11 #[v] w fun e w' => ∃ ao n cap, e = .returned (.tuple #[.slice ao n cap, .bool (puOk L)]) ∧ OwnSl w.heap.size w' (.slice ao n cap) (puL L) ∧ Below w.heap.size w w' := by
  have HV := hide h
  obtain ⟨ao, cap, rfl, hl, hm, -⟩ := h
  unfold maxLen at hm
  have NIL : ∀ W, OwnSl w.heap.size W (.slice none 0 0) [] := fun W => ⟨none, 0, rfl, Nat.le_refl _, Nat.zero_le _, fun e => absurd rfl e⟩
  obtain ⟨V, eV⟩ : ∃ z, z = puOk L := ⟨_, rfl⟩
  obtain ⟨M, eM⟩ : ∃ z, z = puL L := ⟨_, rfl⟩
  have HBAD : Hid (puOk L = false → V = false ∧ M = []) := by
    show _ → _
    intro hf
    refine ⟨eV.trans hf, ?_⟩
    rw [eM]; unfold puL; rw [hf]; rfl
  have HGOOD : Hid (puOk L = true → V = true ∧ M = puV L L.length) := by
    show _ → _
    intro hf
    refine ⟨eV.trans hf, ?_⟩
    rw [eM]; unfold puL; rw [hf]; rfl
  rw [← eV, ← eM]
  clear eV eM
  by_cases h38 : L.length ≤ 38
  case neg =>
    obtain ⟨rfl, rfl⟩ := unhide HBAD (by unfold puOk; rw [decide_eq_false h38]; rfl)
    have hn : (38 : Int) < (L.length : Int) := by omega
    go_enter Try.func11, Try.ntmps11
    go_wp2
    refine bodyPost_ret (v := .tuple #[.slice none 0 0, .bool false]) (by simp [results, Try.results11, go_sem]) rfl ⟨none, 0, 0, rfl, NIL _, Below.refl _ _⟩
  have hn : ¬ (38 : Int) < (L.length : Int) := by omega
  obtain ⟨n2, en2⟩ : ∃ z, z = L.length + 2 := ⟨_, rfl⟩
  have hcast : ((L.length : Int) + 2) = (n2 : Int) := by omega
  have hmk := run_make_row' (P := Try.prog) 25 3 (.int .i64 0) 8 Try.underlying25 Try.info3 rfl .i64 .i64 n2 (by omega) (by omega)
  have A1 := Below.alloc1 w (.cells (madeCells #[.int .i64 0] n2) 3)
  have hT := ownV_alloc w (madeCells #[.int .i64 0] n2) 3
  have hmade := made_sh L
  rw [← en2] at hmade
  rw [hmade] at hT
  clear hmade
  have HN : Hid (∀ k, k < L.length → okPu (L.getD k 0) = false → puOk L = false) := by
    show ∀ k, _
    intro k hk hp
    unfold puOk
    rw [all_false hk hp, Bool.and_false]
  have HY : Hid ((∀ i, i < L.length → okPu (L.getD i 0) = true) → puOk L = true) := by
    show _ → _
    intro hp
    unfold puOk
    rw [decide_eq_true h38, all_true hp]; rfl
  have Hn2 := hide en2
  clear en2
  go_enter Try.func11, Try.ntmps11
  go_upto_region 4 with (fail)
  obtain ⟨W, eW⟩ : ∃ z, z = w.alloc (.cells (madeCells #[.int .i64 0] n2) 3) := ⟨_, rfl⟩
  obtain ⟨g, eg⟩ : ∃ z, z = w.heap.size := ⟨_, rfl⟩
  rw [← eW] at A1 hT ⊢
  rw [← eg] at hT ⊢
  have HT := hide hT
  have HW := hide A1
  have hg : w.heap.size ≤ g := by omega
  clear A1 hT hmk eW eg hcast
  go_wp2_with fail
  go_loopg [16] L.length (fun gh iv wr => ∃ k : Nat, k ≤ L.length ∧ gh = L.length - k ∧ iv = .int .i64 k ∧ Hid (∀ i, i < k → okPu (L.getD i 0) = true) ∧ Hid (OwnV wr g (ints (puV L k))) ∧ Hid (Below w.heap.size w wr))
  case atStart => exact ⟨0, Nat.zero_le _, rfl, rfl, hide (fun i hi => absurd hi (by omega)), HT, HW⟩
  case round =>
    clear HT HW
    obtain ⟨k, hk, rfl, rfl, HP, HT, HW⟩ := hrel
    by_cases hkn : k < L.length
    · have hki : (k : Int) < (L.length : Int) := by omega
      have dki : decide ((k : Int) < (L.length : Int)) = true := decide_eq_true hki
      obtain ⟨b, o, eao, hc⟩ := intAt ((unhide HV).below (unhide HW)) hkn
      subst eao
      obtain ⟨x, ex⟩ : ∃ z, z = L.getD k 0 := ⟨_, rfl⟩
      rw [← ex] at hc
      have HX := hide ex
      clear ex
      by_cases hp : okPu x = true
      · have hp1 : inB x (-1000) 1000 = true := by unfold okPu at hp; rw [Bool.and_eq_true] at hp; exact hp.1
        have hp2 : (x.tmod 2 == 0) = true := by unfold okPu at hp; rw [Bool.and_eq_true] at hp; exact hp.2
        obtain ⟨x0, x1⟩ := inB_true hp1
        have HP2 : Hid (∀ i, i < k + 1 → okPu (L.getD i 0) = true) := by
          show ∀ i, _
          intro i hi
          by_cases e : i = k
          · rw [e, ← unhide HX]; exact hp
          · exact unhide HP i (by omega)
        have hhv := hv_bd (unhide HP2 k (by omega))
        have hfb := puF_bd (unhide HP) k
        obtain ⟨y, ey⟩ : ∃ z, z = hv L k := ⟨_, rfl⟩
        have exy : x.tdiv 2 = y := by rw [ey]; unfold hv; rw [unhide HX]
        have wq : IntKind.i64.wrap (x.tdiv 2) = y := by rw [wrap_i64_tdiv _ _ (by omega) (by omega) (by omega), exy]
        obtain ⟨f0, ef⟩ : ∃ z, z = puF L k k := ⟨_, rfl⟩
        have HNX := hide (sh_next L k)
        have h0 := (unhide HT).cell (puV_at L k (j := k) (by omega))
        have h2 := (unhide HT).cell (puV_at L k (j := k + 2) (by omega))
        rw [puF_here] at h2
        rw [← ef] at h0 hfb HNX
        rw [← ey] at hhv HNX
        have fz0 := (unhide HT).frozen k
        have fz2 := (unhide HT).frozen (k + 2)
        have HE := hide (isEven_any x)
        have hxx : -10000 ≤ x ∧ x ≤ 10000 := by omega
        clear ey exy ef hp
        obtain ⟨k2, ek2⟩ : ∃ z, z = k + 2 := ⟨_, rfl⟩
        have hk2 : (k2 : Int) < (n2 : Int) := by have := unhide Hn2; omega
        have hk3 : (k : Int) < (n2 : Int) := by omega
        rw [← ek2] at h2 fz2 HNX
        have hkk : ((k : Int) + 2) = (k2 : Int) := by omega
        have nk : ¬ k = k2 := by omega
        have nk2 : ¬ k2 = k := by omega
        have hl1 : k < (ints (puV L k)).length := by simp [ints, puV]; omega
        have hl2 : k2 < (ints (puV L k)).length := by simp [ints, puV]; omega
        have HS2 : Hid (OwnV ((wr.setCell ⟨g, k, none⟩ (.int .i64 (f0 + y))).setCell ⟨g, k2, none⟩ (.int .i64 (0 + y))) g (ints (puV L (k + 1)))) := by
          have := ((unhide HT).set k (.int .i64 (f0 + y)) hl1).set k2 (.int .i64 (0 + y)) (by rw [List.length_set]; exact hl2)
          rw [unhide HNX] at this
          exact this
        have HWN : Hid (Below w.heap.size w ((wr.setCell ⟨g, k, none⟩ (.int .i64 (f0 + y))).setCell ⟨g, k2, none⟩ (.int .i64 (0 + y)))) := ((unhide HW).setCell (by dsimp only; omega) _).setCell (by dsimp only; omega) _
        have z0y : (0 : Int) + y = y := by omega
        rw [z0y] at HS2 HWN
        clear ek2 HNX z0y
        go_wp2_with (first | (go_at_call 24; refine (isPush_any _ _).mono ?_; rintro e w' ⟨rfl, h9⟩; have h8 := h9.symm; subst h8; clear h9) | (go_at_call 23; refine (unhide HE _ hxx).mono ?_; rintro e w' ⟨rfl, h9⟩; have h8 := h9.symm; subst h8; clear h9))
        go_roundg (L.length - (k + 1))
        case measure => omega
        case rel => exact ⟨k + 1, by omega, rfl, by go_num, HP2, HS2, HWN⟩
      · have hpf : okPu x = false := by simpa using hp
        obtain ⟨rfl, rfl⟩ := unhide HBAD (unhide HN k hkn (by rw [← unhide HX]; exact hpf))
        cases hp1 : inB x (-1000) 1000 with
        | false =>
          go_wp2_with (go_at_call 24; refine (isPush_any _ _).mono ?_; rintro e w' ⟨rfl, h9⟩; have h8 := h9.symm; subst h8; clear h9)
          refine bodyPost_ret (v := .tuple #[.slice none 0 0, .bool false]) (by simp [results, Try.results11, go_sem]) rfl ⟨none, 0, 0, rfl, NIL _, unhide HW⟩
        | true =>
          have hp2 : (x.tmod 2 == 0) = false := by unfold okPu at hpf; rw [hp1, Bool.true_and] at hpf; exact hpf
          obtain ⟨x0, x1⟩ := inB_true hp1
          have hxx : -10000 ≤ x ∧ x ≤ 10000 := by omega
          have HE := hide (isEven_any x)
          clear hp hpf
          go_wp2_with (first | (go_at_call 24; refine (isPush_any _ _).mono ?_; rintro e w' ⟨rfl, h9⟩; have h8 := h9.symm; subst h8; clear h9) | (go_at_call 23; refine (unhide HE _ hxx).mono ?_; rintro e w' ⟨rfl, h9⟩; have h8 := h9.symm; subst h8; clear h9))
          refine bodyPost_ret (v := .tuple #[.slice none 0 0, .bool false]) (by simp [results, Try.results11, go_sem]) rfl ⟨none, 0, 0, rfl, NIL _, unhide HW⟩
    · obtain rfl : k = L.length := by omega
      have dki : decide ((L.length : Int) < (L.length : Int)) = false := by simp
      obtain ⟨rfl, rfl⟩ := unhide HGOOD (unhide HY (unhide HP))
      go_wp2
      refine bodyPost_ret (v := .tuple #[.slice (some ⟨g, 0, none⟩) n2 n2, .bool true]) (by simp [results, Try.results11, go_sem]) rfl ⟨some ⟨g, 0, none⟩, n2, n2, rfl, ?_, unhide HW⟩
      have e := unhide Hn2
      have hl2 := puV_len L L.length
      exact ⟨_, n2, by rw [hl2, ← e], by rw [hl2]; omega, by unfold maxLen; omega, fun _ => ⟨g, rfl, hg, unhide HT⟩⟩
end Go.Proofs.Ytkfdcpnbpmipkaa
