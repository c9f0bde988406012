/- Bills: contracts of the specification's l14Op, l14Made, l14Holds. Written by wip/mkblr.py. -/
import Derived.Test.YtdcbonfhakdhhaaBlD
import Derived.Test.YtdcbonfhakdhhaaBlI
import Derived.Test.YtdcbonfhakdhhaaBlJ
import Derived.Test.YtdcbonfhakdhhaaBlN
namespace Go.Proofs.Ytdcbonfhakdhhaa
open Go.RowKit

set_option maxRecDepth 10000 in
set_option maxHeartbeats 3200000 in
theorem specOp_any (kd id : Int) (who tt : ByteArray) (num many : Int) (w : World) (ht : txtBillOp (kd, id, who, tt, num, many) maxLen) :
    Calls Try.prog 38 #[vBillOp kd id who tt num many] w fun e w' => e = .returned (.bool (opB (kd, id, who, tt, num, many))) ∧ Below w.heap.size w w' := by
  have HW := hide (Below.alloc1 w (.cells #[.int .i64 kd, .int .i64 id, .string who, .string tt, .int .i64 num, .int .i64 many] 34))
  obtain ⟨ht1, ht2⟩ := ht
  have Q0 := hide fun V => l1In_any kd 1 5 V
  have Q1 := hide fun V => l1In_any id 1 1000000 V
  have Q2 := hide fun V => specName_any who V ht1
  have Q4 := hide fun V => specName_any tt V ht2
  have Q5 := hide fun V => l1In_any many 1 5 V
  have e0 := no_list tt
  clear ht1 ht2
  have EO : Hid (opB (kd, id, who, tt, num, many) = (inB id 1 1000000 && nameB who && (if kd = 1 then orB tt && inB many 1 5 else if kd = 2 then orB tt else if kd = 3 then nameB tt else if kd = 4 then true else if kd = 5 then inB many 1 5 else false))) := rfl
  generalize opB (kd, id, who, tt, num, many) = Z at *
  unfold vBillOp
  go_enter Try.func38, Try.ntmps38
  go_wp2_with fail
  refine (unhide Q0 _).mono ?_
  rintro e w0 ⟨rfl, h9⟩
  subst h9
  cases h0 : inB kd 1 5 with
  | false =>
    have k1 : kd ≠ 1 := fun e => by subst e; exact absurd h0 (by decide)
    have k2 : kd ≠ 2 := fun e => by subst e; exact absurd h0 (by decide)
    have k3 : kd ≠ 3 := fun e => by subst e; exact absurd h0 (by decide)
    have k4 : kd ≠ 4 := fun e => by subst e; exact absurd h0 (by decide)
    have k5 : kd ≠ 5 := fun e => by subst e; exact absurd h0 (by decide)
    have ez : Z = false := by rw [unhide EO]; simp [k1, k2, k3, k4, k5]
    go_wp2
    go_ret
    exact ⟨by rw [ez]; rfl, unhide HW⟩
  | true =>
    have hk := inB_true h0
    go_wp2_with fail
    refine (unhide Q1 _).mono ?_
    rintro e w1 ⟨rfl, h9⟩
    subst h9
    cases h1 : inB id 1 1000000 with
    | false =>
      have ez : Z = false := by rw [unhide EO]; simp [h1]
      go_wp2
      go_ret
      exact ⟨by rw [ez]; rfl, unhide HW⟩
    | true =>
      go_wp2_with fail
      refine (unhide Q2 _).mono ?_
      rintro e w2 ⟨rfl, h9⟩
      subst h9
      cases h2 : nameB who with
      | false =>
        have ez : Z = false := by rw [unhide EO]; simp [h1, h2]
        go_wp2
        go_ret
        exact ⟨by rw [ez]; rfl, unhide HW⟩
      | true =>
        rw [h1, h2] at EO
        clear Q0 Q1 Q2 h0 h1 h2
        by_cases k1 : kd = 1
        · subst k1
          cases h6 : noB tt with
          | true =>
            rw [h6] at e0
            have h3 : orB tt = true := by simp [orB, h6]
            go_wp2_with fail
            refine (unhide Q5 _).mono ?_
            rintro e w6 ⟨rfl, h9⟩
            subst h9
            cases h5 : inB many 1 5 with
            | false =>
              have hv : Z = false := by rw [unhide EO]; simp [h5, h3]
              go_wp2
              go_ret
              exact ⟨by rw [hv]; rfl, unhide HW⟩
            | true =>
              have hv : Z = true := by rw [unhide EO]; simp [h5, h3]
              go_wp2
              go_ret
              exact ⟨by rw [hv]; rfl, unhide HW⟩
          | false =>
            rw [h6] at e0
            go_wp2_with fail
            refine (unhide Q4 _).mono ?_
            rintro e w5 ⟨rfl, h9⟩
            subst h9
            cases h7 : nameB tt with
            | false =>
              have h3 : orB tt = false := by simp [orB, h6, h7]
              have ez : Z = false := by rw [unhide EO]; simp [h3]
              go_wp2
              go_ret
              exact ⟨by rw [ez]; rfl, unhide HW⟩
            | true =>
              have h3 : orB tt = true := by simp [orB, h7]
              go_wp2_with fail
              refine (unhide Q5 _).mono ?_
              rintro e w6 ⟨rfl, h9⟩
              subst h9
              cases h5 : inB many 1 5 with
              | false =>
                have hv : Z = false := by rw [unhide EO]; simp [h5, h3]
                go_wp2
                go_ret
                exact ⟨by rw [hv]; rfl, unhide HW⟩
              | true =>
                have hv : Z = true := by rw [unhide EO]; simp [h5, h3]
                go_wp2
                go_ret
                exact ⟨by rw [hv]; rfl, unhide HW⟩
        have e1 : (kd == 1) = false := by simpa using k1
        by_cases k2 : kd = 2
        · subst k2
          cases h6 : noB tt with
          | true =>
            rw [h6] at e0
            have h3 : orB tt = true := by simp [orB, h6]
            go_wp2_with fail
            refine (unhide Q5 _).mono ?_
            rintro e w6 ⟨rfl, h9⟩
            subst h9
            cases h5 : inB many 1 5 with
            | false =>
              have hv : Z = true := by rw [unhide EO]; simp [h3]
              go_wp2
              go_ret
              exact ⟨by rw [hv]; rfl, unhide HW⟩
            | true =>
              have hv : Z = true := by rw [unhide EO]; simp [h3]
              go_wp2
              go_ret
              exact ⟨by rw [hv]; rfl, unhide HW⟩
          | false =>
            rw [h6] at e0
            go_wp2_with fail
            refine (unhide Q4 _).mono ?_
            rintro e w5 ⟨rfl, h9⟩
            subst h9
            cases h7 : nameB tt with
            | false =>
              have h3 : orB tt = false := by simp [orB, h6, h7]
              have ez : Z = false := by rw [unhide EO]; simp [h3]
              go_wp2
              go_ret
              exact ⟨by rw [ez]; rfl, unhide HW⟩
            | true =>
              have h3 : orB tt = true := by simp [orB, h7]
              go_wp2_with fail
              refine (unhide Q5 _).mono ?_
              rintro e w6 ⟨rfl, h9⟩
              subst h9
              cases h5 : inB many 1 5 with
              | false =>
                have hv : Z = true := by rw [unhide EO]; simp [h3]
                go_wp2
                go_ret
                exact ⟨by rw [hv]; rfl, unhide HW⟩
              | true =>
                have hv : Z = true := by rw [unhide EO]; simp [h3]
                go_wp2
                go_ret
                exact ⟨by rw [hv]; rfl, unhide HW⟩
        have e2 : (kd == 2) = false := by simpa using k2
        by_cases k3 : kd = 3
        · subst k3
          go_wp2_with fail
          refine (unhide Q4 _).mono ?_
          rintro e w5 ⟨rfl, h9⟩
          subst h9
          have ez : Z = nameB tt := by rw [unhide EO]; simp []
          go_wp2
          go_ret
          exact ⟨by rw [ez]; rfl, unhide HW⟩
        have e3 : (kd == 3) = false := by simpa using k3
        by_cases k4 : kd = 4
        · subst k4
          go_wp2_with fail
          refine (unhide Q5 _).mono ?_
          rintro e w6 ⟨rfl, h9⟩
          subst h9
          cases h5 : inB many 1 5 with
          | false =>
            have hv : Z = true := by rw [unhide EO]; simp []
            go_wp2
            go_ret
            exact ⟨by rw [hv]; rfl, unhide HW⟩
          | true =>
            have hv : Z = true := by rw [unhide EO]; simp []
            go_wp2
            go_ret
            exact ⟨by rw [hv]; rfl, unhide HW⟩
        have k5 : kd = 5 := by omega
        subst k5
        go_wp2_with fail
        refine (unhide Q5 _).mono ?_
        rintro e w6 ⟨rfl, h9⟩
        subst h9
        cases h5 : inB many 1 5 with
        | false =>
          have hv : Z = false := by rw [unhide EO]; simp [h5]
          go_wp2
          go_ret
          exact ⟨by rw [hv]; rfl, unhide HW⟩
        | true =>
          have hv : Z = true := by rw [unhide EO]; simp [h5]
          go_wp2
          go_ret
          exact ⟨by rw [hv]; rfl, unhide HW⟩

def eS (s : ByteArray) (_ : Nat) : Value := .string s
theorem recS (H : List ByteArray) : recCells 1 eS H = strs H := by
  apply List.ext_getElem?
  intro i
  by_cases h : i < H.length
  · simp [recCells, eS, strs, h, List.getD]
  · simp [recCells, strs, h]
theorem tyS : RecTy 38 9 1 eS := recTy_mk Try.underlying38 Try.infoStr (by rfl) (by omega) (by omega) (fun _ _ _ => rfl)
theorem tyI : RecTy 25 3 1 eI := recTy_mk Try.underlying25 Try.infoI (by rfl) (by omega) (by omega) (fun _ _ _ => rfl)
theorem tyB : RecTy 24 40 5 eBl := recTy_mk Try.underlying24 Try.infoBill (by rfl) (by omega) (by omega) (fun x j hj => by
  match j, hj with
  | 0, _ => rfl
  | 1, _ => rfl
  | 2, _ => rfl
  | 3, _ => rfl
  | 4, _ => rfl)
theorem SIn.recs {w : World} {v : Value} {H : List ByteArray} (h : SIn w v H) : RecsIn 1 eS w v H := by
  obtain ⟨ao, cap, rfl, h1, h2, h3⟩ := h
  refine ⟨ao, cap, rfl, h1, h2, fun i hi => ?_⟩
  obtain ⟨b, o, e, hc⟩ := h3 i hi
  refine ⟨b, o, e, fun j hj => ?_⟩
  have : j = 0 := by omega
  subst this
  rw [Nat.mul_one, Nat.add_zero]
  exact hc
theorem ints_recs {w : World} {v : Value} {F : List Int} (h : IntsIn w v F) : RecsIn 1 eI w v F := by
  obtain ⟨ao, cap, rfl, h1, h2, h3⟩ := h
  refine ⟨ao, cap, rfl, h1, h2, fun i hi => ?_⟩
  obtain ⟨b, o, e, hc⟩ := h3 i hi
  refine ⟨b, o, e, fun j hj => ?_⟩
  have : j = 0 := by omega
  subst this
  rw [Nat.mul_one, Nat.add_zero]
  first | exact hc | (rw [hc]; simp [eI, List.getD])

/-- The specification's count of originals. -/
theorem specHolds_any (xi : Int) (sh od : ByteArray) (mn : Int) (na : Option Addr) (nc : Nat) (H : List ByteArray) (who : ByteArray) (w : World) (h : SIn w (.slice na H.length nc) H) :
    Calls Try.prog 71 #[vBill xi sh od mn (.slice na H.length nc), .string who] w fun e w' => e = .returned (.int .i64 (cnt H who : Nat)) ∧ Below w.heap.size w w' := by
  have A := Below.alloc1 w (.cells #[.int .i64 xi, .string sh, .string od, .int .i64 mn, .slice na H.length nc] 40)
  have O := ownV_alloc w #[.int .i64 xi, .string sh, .string od, .int .i64 mn, .slice na H.length nc] 40
  have c4 := O.cell (i := 4) rfl
  have HC := hide (h.below A).cells
  have HW := hide A
  have HSN := hide fun k (hk : k < H.length) => cnt_snoc H who hk
  have HCT := hide fun k => cnt_take H who k
  obtain ⟨-, hl1, hl2⟩ := h.slice_len
  unfold maxLen at hl2
  clear A O h
  unfold vBill
  go_enter Try.func71, Try.ntmps71
  go_wp2
  obtain ⟨V, eV⟩ : ∃ V, V = w.alloc (.cells #[.int .i64 xi, .string sh, .string od, .int .i64 mn, .slice na H.length nc] 40) := ⟨_, rfl⟩
  rw [← eV] at HC c4 HW ⊢
  clear eV
  obtain ⟨gb, egb⟩ : ∃ g, g = w.heap.size := ⟨_, rfl⟩
  rw [← egb] at c4 ⊢
  clear egb
  go_loopg [5, 6] H.length (fun g cv iv wr => wr = V ∧ ∃ k : Nat, k ≤ H.length ∧ g = H.length - k ∧ iv = .int .i64 k ∧ cv = .int .i64 (cnt (H.take k) who : Nat))
  case atStart => exact ⟨rfl, 0, Nat.zero_le _, rfl, rfl, by simp [cnt]⟩
  case round =>
    obtain ⟨rfl, k, hk, rfl, rfl, rfl⟩ := hrel
    have hct := unhide HCT k
    by_cases hkn : k < H.length
    · have hki : (k : Int) < H.length := by omega
      obtain ⟨b, o, rfl, hcell⟩ := unhide HC k hkn
      have hsn := unhide HSN k hkn
      generalize cnt (H.take k) who = c at *
      have hte := text_eq (H.getD k default) who
      by_cases hx : H.getD k default = who
      · rw [if_pos hx] at hsn
        rw [decide_eq_true hx] at hte
        have HN := hide hsn
        generalize H.getD k default = s at *
        clear hsn hx
        go_wp2
        go_roundg (H.length - (k + 1))
        case measure => omega
        case rel => exact ⟨rfl, k + 1, by omega, rfl, by go_num, by rw [unhide HN]; congr 1⟩
      · rw [if_neg hx] at hsn
        rw [decide_eq_false hx] at hte
        have HN := hide hsn
        generalize H.getD k default = s at *
        clear hsn hx
        go_wp2
        go_roundg (H.length - (k + 1))
        case measure => omega
        case rel => exact ⟨rfl, k + 1, by omega, rfl, by go_num, by rw [unhide HN]; congr 1⟩
    · have hkk : k = H.length := by omega
      have HE : Hid (H.take k = H) := by show _ = _; rw [hkk, List.take_length]
      go_wp2
      go_ret
      exact ⟨by rw [unhide HE]; rfl, unhide HW⟩

/-- The specification's row of one name. -/
theorem specMade_any (who : ByteArray) (n : Nat) (w : World) (hn : n ≤ 1048576) :
    Calls Try.prog 40 #[.string who, .int .i64 n] w fun e w' => ∃ g c, e = .returned (.slice (some ⟨g, 0, none⟩) n c) ∧ w.heap.size ≤ g ∧ n ≤ c ∧ c ≤ maxLen ∧ OwnV w' g (strs (List.replicate n who)) ∧ Below w.heap.size w w' := by
  have HW := hide (Below.alloc1 w (.cells #[] 9))
  have HR := hide (rowB_new 9 1 eS w w.heap.size (Nat.le_refl _))
  go_enter Try.func40, Try.ntmps40
  go_wp2
  obtain ⟨V, eV⟩ : ∃ V, V = w.alloc (.cells #[] 9) := ⟨_, rfl⟩
  rw [← eV] at HW HR ⊢
  clear eV
  go_loopg [5, 6] n (fun gg rv iv wr => ∃ (k g c : Nat), k ≤ n ∧ gg = n - k ∧ iv = .int .i64 k ∧ rv = .slice (some ⟨g, 0, none⟩) k c ∧ Hid (RowB 9 1 eS w.heap.size wr (some ⟨g, 0, none⟩) k c (List.replicate k who)) ∧ Hid (Below w.heap.size w wr))
  case atStart => exact ⟨0, _, 0, Nat.zero_le _, rfl, rfl, rfl, HR, HW⟩
  case round =>
    clear HR HW
    obtain ⟨k, g, c, hk, rfl, rfl, rfl, HR, HW⟩ := hrel
    by_cases hkn : k < n
    · have hki : (k : Int) < n := by omega
      have A := Below.alloc1 wr (.cells #[.string who] 9)
      have HR1 := hide ((unhide HR).below A)
      have HW1 := hide (Below.step (unhide HW) A)
      have HG : Hid (OwnV (wr.alloc (.cells #[.string who] 9)) wr.heap.size ((List.range 1).map (eS who))) := ownV_alloc wr #[.string who] 9
      clear A HR HW
      go_wp2_with (at_builtin; go_must (refine wpList_appRow tyS _ rfl _ _ rfl w.heap.size (some ⟨g, 0, none⟩) k c (List.replicate k who) rfl (unhide HR1) (unhide HW1).size (by omega) wr.heap.size who 1 rfl (unhide HG) ?_); intro g' cap' w4 hL hK hBg hat; have HL2 := hide hL; have HW2 := hide ((unhide HW1).trans (hK.below (B := w.heap.size) (unhide HW1).size (fun b e => by rcases (unhide HR1).parts (by omega) with ⟨h, _⟩ | ⟨g0, h, h2, _⟩ <;> simp_all))); clear hL hK)
      rw [← List.replicate_succ'] at HL2
      go_roundg (n - (k + 1))
      case measure => omega
      case rel => exact ⟨k + 1, g', cap', by omega, rfl, by go_num, rfl, HL2, HW2⟩
    · have hkk : k = n := by omega
      subst hkk
      go_wp2
      go_ret
      rcases (unhide HR).parts (by omega) with ⟨h, _⟩ | ⟨g0, h, h2, h3, h4, h5, h6⟩
      · cases h
      · simp only [Option.some.injEq, Addr.mk.injEq, and_true] at h
        subst h
        rw [recS] at h6
        exact ⟨_, _, rfl, h2, h4, h5, h6, unhide HW⟩

end Go.Proofs.Ytdcbonfhakdhhaa
