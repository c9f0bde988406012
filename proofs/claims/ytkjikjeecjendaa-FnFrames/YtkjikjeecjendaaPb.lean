/- Laid together out of: MtA, RReport, FmA, RgI, FmE, FmF, FrB, FrC, FmG. -/
import Derived.Test.YtkjikjeecjendaaPa
import Derived.Laws.Concat
import Derived.Laws.BytesString
import Derived.Deep.RegionHeld3

/- Contract of the laws' own markText: a text for each number. -/
namespace Go.Proofs.Ytkjikjeecjendaa
open Go.RowKit

def dB (n : Nat) : ByteArray := ByteArray.empty.push (UInt8.ofNat (48 + n % 10))
def digB (n : Nat) : ByteArray := if _h : n = 0 then ByteArray.empty else digB (n / 10) ++ dB n
termination_by n
decreasing_by omega
theorem digB_zero : digB 0 = ByteArray.empty := by rw [digB]; simp
theorem digB_pos {n : Nat} (h : 0 < n) : digB n = digB (n / 10) ++ dB n := by
  rw [digB, dif_neg (by omega)]
theorem dB_size (n : Nat) : (dB n).size = 1 := rfl
theorem digB_size : ∀ d n, n < 10 ^ d → (digB n).size ≤ d
  | 0, n, h => by
    have : n = 0 := by simpa using h
    subst this
    rw [digB_zero]
    exact Nat.le_refl _
  | d + 1, n, h => by
    by_cases h0 : n = 0
    · subst h0
      rw [digB_zero]
      exact Nat.zero_le _
    · rw [digB_pos (by omega), ByteArray.size_append, dB_size]
      have := digB_size d (n / 10) (by rw [Nat.pow_succ] at h; omega)
      omega
theorem byt_assoc (a b c : ByteArray) : a ++ b ++ c = a ++ (b ++ c) := by
  apply ByteArray.ext
  simp [ByteArray.data_append]
theorem byt_nil (a : ByteArray) : a ++ ⟨#[]⟩ = a := by
  apply ByteArray.ext
  simp [ByteArray.data_append]
theorem byt_nil' (a : ByteArray) : ByteArray.empty ++ a = a := by
  apply ByteArray.ext
  simp
theorem cv_dig (k : Nat) (dd : Int) (ed : dd = 48 + (k : Int) % 10) (wr : World) : (convert 22 9 (.slice (some ⟨wr.heap.size, 0, none⟩) 1 1)).run Try.prog (wr.alloc (.cells #[.int .u8 dd] 5)) = .ok (.string (dB k)) (wr.alloc (.cells #[.int .u8 dd] 5)) := by
  rw [run_convert_bytes_string _ _ _ _ _ _ _ Try.underlying22 Try.underlying5 Try.underlying9]
  rw [run_bytesToString _ _ _ _ [dd] (by simp [loadCells, go_sem])]
  have e : dd.toNat = 48 + k % 10 := by omega
  simp [dB, e]
/-- The text of a mark. -/
def mt (k : Int) : ByteArray := if k ≤ 0 then ⟨#[109, 48]⟩ else ⟨#[109]⟩ ++ digB k.toNat

end Go.Proofs.Ytkjikjeecjendaa

/- Records of Report (ints and texts): words; contracts of the laws' own szReport, szReportS, toReport, toReportS, eqReport, eqReportS, markReportS, heldReportS. Written by wip/mkrecm.py. -/
namespace Go.Proofs.Ytkjikjeecjendaa
open Go.RowKit

abbrev ReportT := Int × Int × Int × Int × Int × Int
def eReport (x : ReportT) : Nat → Value
  | 0 => .int .i64 x.1
  | 1 => .int .i64 x.2.1
  | 2 => .int .i64 x.2.2.1
  | 3 => .int .i64 x.2.2.2.1
  | 4 => .int .i64 x.2.2.2.2.1
  | _ => .int .i64 x.2.2.2.2.2
def vReport (x0 : Int) (x1 : Int) (x2 : Int) (x3 : Int) (x4 : Int) (x5 : Int) : Value := .agg #[.int .i64 x0, .int .i64 x1, .int .i64 x2, .int .i64 x3, .int .i64 x4, .int .i64 x5]
abbrev RReport := RecsIn 6 eReport
theorem recReportAt {w : World} {ao : Option Addr} {L : List ReportT} {k : Nat} (h : ∀ i, i < L.length → ∃ b o, ao = some ⟨b, o, none⟩ ∧ ∀ j, j < 6 → w.cell? ⟨b, o + (i * 6 + j), none⟩ = some (eReport (L.getD i default) j)) (hk : k < L.length) :
    ∃ b o x0 x1 x2 x3 x4 x5, ao = some ⟨b, o, none⟩ ∧ w.cell? ⟨b, o + k * 6, none⟩ = some (.int .i64 x0) ∧ w.cell? ⟨b, o + k * 6 + 1, none⟩ = some (.int .i64 x1) ∧ w.cell? ⟨b, o + k * 6 + 2, none⟩ = some (.int .i64 x2) ∧ w.cell? ⟨b, o + k * 6 + 3, none⟩ = some (.int .i64 x3) ∧ w.cell? ⟨b, o + k * 6 + 4, none⟩ = some (.int .i64 x4) ∧ w.cell? ⟨b, o + k * 6 + 5, none⟩ = some (.int .i64 x5) ∧ Hid (L.getD k default = (x0, x1, x2, x3, x4, x5)) := by
  obtain ⟨b, o, e, hc⟩ := h k hk
  exact ⟨b, o, _, _, _, _, _, _, e, hc 0 (by omega), hc 1 (by omega), hc 2 (by omega), hc 3 (by omega), hc 4 (by omega), hc 5 (by omega), rfl⟩
theorem Try.infoReport : (Try.prog.info? 25).map (fun i => (i.zero, i.size, i.bytes)) = some (some (vReport 0 0 0 0 0 0), 6, 48) := by kernel_rfl

set_option maxHeartbeats 800000 in
theorem toReport_any (x0 : Int) (x1 : Int) (x2 : Int) (x3 : Int) (x4 : Int) (x5 : Int) (w : World) :
    Calls Try.prog 28 #[vReport x0 x1 x2 x3 x4 x5] w fun e w' => e = .returned (vReport x0 x1 x2 x3 x4 x5) ∧ Below w.heap.size w w' := by
  unfold vReport
  go_enter Try.func28, Try.ntmps28
  go_wp2
  refine bodyPost_ret (v := vReport x0 x1 x2 x3 x4 x5) (by simp [results, Try.results28, go_sem, vReport]) rfl ⟨rfl, ?_⟩
  exact (((Below.refl _ _).alloc (Nat.le_refl _) _).alloc (by simp) _).alloc (by simp; omega) _

set_option maxHeartbeats 800000 in
theorem eqReport_any (x0 : Int) (x1 : Int) (x2 : Int) (x3 : Int) (x4 : Int) (x5 : Int) (w : World) :
    Calls Try.prog 35 #[vReport x0 x1 x2 x3 x4 x5, vReport x0 x1 x2 x3 x4 x5] w fun e w' => e = .returned (.bool true) ∧ Below w.heap.size w w' := by
  unfold vReport
  go_enter Try.func35, Try.ntmps35
  go_wp2
  go_ret
  exact ⟨rfl, ((Below.refl _ _).alloc (Nat.le_refl _) _).alloc (by simp) _⟩

/-- The marks of ReportS, from k on. -/
def mkReport (k : Int) (q : Nat) : Value := .int .i64 (k + (q : Int))

end Go.Proofs.Ytkjikjeecjendaa

/- Reports in numbers; contracts of the program's isSlot and of both ReportOk. Written by wip/mkfm.py. -/
namespace Go.Proofs.Ytkjikjeecjendaa
open Go.RowKit

/-- A right report, in numbers. -/
def repB (k i x y s n : Int) : Bool := inB k 1 9 && inB i 1 999999999 && inB x (-8388608) 8388607 && inB y (-8388608) 8388607 && inB s 0 19 && inB n 0 19

set_option maxHeartbeats 400000 in
theorem isSlot_any (x : Int) (w : World) : Calls Try.prog 56 #[.int .i64 x] w fun e w' => e = .returned (.bool (inB x 0 19)) ∧ w' = w := by
  go_enter Try.func56, Try.ntmps56
  go_wp2_with (go_at_call 55; refine (within_any _ _ _ _).mono ?_; rintro e w' ⟨rfl, h9⟩; have h8 := h9.symm; subst h8; clear h9)
  go_ret
  exact ⟨rfl, rfl⟩

set_option maxHeartbeats 3200000 in
theorem specReportOk_any (k i x y s n : Int) (w : World) :
    Calls Try.prog 16 #[vReport k i x y s n] w fun e w' => e = .returned (.bool (repB k i x y s n)) ∧ Below w.heap.size w w' := by
  have HW := hide (Below.alloc1 w (.cells #[.int .i64 k, .int .i64 i, .int .i64 x, .int .i64 y, .int .i64 s, .int .i64 n] 25))
  cases h1 : inB k 1 9
  · skip
    have HN : Hid (repB k i x y s n = false) := by show _ = _; unfold repB; rw [h1]; first | rfl | simp
    unfold vReport
    go_enter Try.func16, Try.ntmps16
    go_wp2_with (go_at_call 54; refine (l1In_any _ _ _ _).mono ?_; rintro e w' ⟨rfl, h9⟩; have h8 := h9.symm; subst h8; clear h9)
    go_ret
    exact ⟨ret_bool (unhide HN).symm, unhide HW⟩
  cases h2 : inB i 1 999999999
  · skip
    have HN : Hid (repB k i x y s n = false) := by show _ = _; unfold repB; rw [h1, h2]; first | rfl | simp
    unfold vReport
    go_enter Try.func16, Try.ntmps16
    go_wp2_with (go_at_call 54; refine (l1In_any _ _ _ _).mono ?_; rintro e w' ⟨rfl, h9⟩; have h8 := h9.symm; subst h8; clear h9)
    go_ret
    exact ⟨ret_bool (unhide HN).symm, unhide HW⟩
  cases h3 : inB x (-8388608) 8388607
  · skip
    have HN : Hid (repB k i x y s n = false) := by show _ = _; unfold repB; rw [h1, h2, h3]; first | rfl | simp
    unfold vReport
    go_enter Try.func16, Try.ntmps16
    go_wp2_with (go_at_call 54; refine (l1In_any _ _ _ _).mono ?_; rintro e w' ⟨rfl, h9⟩; have h8 := h9.symm; subst h8; clear h9)
    go_ret
    exact ⟨ret_bool (unhide HN).symm, unhide HW⟩
  cases h4 : inB y (-8388608) 8388607
  · skip
    have HN : Hid (repB k i x y s n = false) := by show _ = _; unfold repB; rw [h1, h2, h3, h4]; first | rfl | simp
    unfold vReport
    go_enter Try.func16, Try.ntmps16
    go_wp2_with (go_at_call 54; refine (l1In_any _ _ _ _).mono ?_; rintro e w' ⟨rfl, h9⟩; have h8 := h9.symm; subst h8; clear h9)
    go_ret
    exact ⟨ret_bool (unhide HN).symm, unhide HW⟩
  cases h5 : inB s 0 19
  · skip
    have HN : Hid (repB k i x y s n = false) := by show _ = _; unfold repB; rw [h1, h2, h3, h4, h5]; first | rfl | simp
    unfold vReport
    go_enter Try.func16, Try.ntmps16
    go_wp2_with (go_at_call 54; refine (l1In_any _ _ _ _).mono ?_; rintro e w' ⟨rfl, h9⟩; have h8 := h9.symm; subst h8; clear h9)
    go_ret
    exact ⟨ret_bool (unhide HN).symm, unhide HW⟩
  cases h6 : inB n 0 19
  · skip
    have HN : Hid (repB k i x y s n = false) := by show _ = _; unfold repB; rw [h1, h2, h3, h4, h5, h6]; first | rfl | simp
    unfold vReport
    go_enter Try.func16, Try.ntmps16
    go_wp2_with (go_at_call 54; refine (l1In_any _ _ _ _).mono ?_; rintro e w' ⟨rfl, h9⟩; have h8 := h9.symm; subst h8; clear h9)
    go_ret
    exact ⟨ret_bool (unhide HN).symm, unhide HW⟩
  have HN : Hid (repB k i x y s n = true) := by show _ = _; unfold repB; rw [h1, h2, h3, h4, h5, h6]; first | rfl | simp
  unfold vReport
  go_enter Try.func16, Try.ntmps16
  go_wp2_with (go_at_call 54; refine (l1In_any _ _ _ _).mono ?_; rintro e w' ⟨rfl, h9⟩; have h8 := h9.symm; subst h8; clear h9)
  go_ret
  exact ⟨ret_bool (unhide HN).symm, unhide HW⟩

set_option maxHeartbeats 3200000 in
theorem implReportOk_any (k i x y s n : Int) (w : World) :
    Calls Try.prog 17 #[vReport k i x y s n] w fun e w' => e = .returned (.bool (repB k i x y s n)) ∧ Below w.heap.size w w' := by
  have HW := hide (Below.alloc1 w (.cells #[.int .i64 k, .int .i64 i, .int .i64 x, .int .i64 y, .int .i64 s, .int .i64 n] 25))
  cases h1 : inB k 1 9
  · skip
    have HN : Hid (repB k i x y s n = false) := by show _ = _; unfold repB; rw [h1]; first | rfl | simp
    unfold vReport
    go_enter Try.func17, Try.ntmps17
    go_wp2_with (first | (go_at_call 55; refine (within_any _ _ _ _).mono ?_; rintro e w' ⟨rfl, h9⟩; have h8 := h9.symm; subst h8; clear h9) | (go_at_call 56; refine (isSlot_any _ _).mono ?_; rintro e w' ⟨rfl, h9⟩; have h8 := h9.symm; subst h8; clear h9))
    go_ret
    exact ⟨ret_bool (unhide HN).symm, unhide HW⟩
  cases h2 : inB i 1 999999999
  · skip
    have HN : Hid (repB k i x y s n = false) := by show _ = _; unfold repB; rw [h1, h2]; first | rfl | simp
    unfold vReport
    go_enter Try.func17, Try.ntmps17
    go_wp2_with (first | (go_at_call 55; refine (within_any _ _ _ _).mono ?_; rintro e w' ⟨rfl, h9⟩; have h8 := h9.symm; subst h8; clear h9) | (go_at_call 56; refine (isSlot_any _ _).mono ?_; rintro e w' ⟨rfl, h9⟩; have h8 := h9.symm; subst h8; clear h9))
    go_ret
    exact ⟨ret_bool (unhide HN).symm, unhide HW⟩
  cases h3 : inB x (-8388608) 8388607
  · skip
    have HN : Hid (repB k i x y s n = false) := by show _ = _; unfold repB; rw [h1, h2, h3]; first | rfl | simp
    unfold vReport
    go_enter Try.func17, Try.ntmps17
    go_wp2_with (first | (go_at_call 55; refine (within_any _ _ _ _).mono ?_; rintro e w' ⟨rfl, h9⟩; have h8 := h9.symm; subst h8; clear h9) | (go_at_call 56; refine (isSlot_any _ _).mono ?_; rintro e w' ⟨rfl, h9⟩; have h8 := h9.symm; subst h8; clear h9))
    go_ret
    exact ⟨ret_bool (unhide HN).symm, unhide HW⟩
  cases h4 : inB y (-8388608) 8388607
  · skip
    have HN : Hid (repB k i x y s n = false) := by show _ = _; unfold repB; rw [h1, h2, h3, h4]; first | rfl | simp
    unfold vReport
    go_enter Try.func17, Try.ntmps17
    go_wp2_with (first | (go_at_call 55; refine (within_any _ _ _ _).mono ?_; rintro e w' ⟨rfl, h9⟩; have h8 := h9.symm; subst h8; clear h9) | (go_at_call 56; refine (isSlot_any _ _).mono ?_; rintro e w' ⟨rfl, h9⟩; have h8 := h9.symm; subst h8; clear h9))
    go_ret
    exact ⟨ret_bool (unhide HN).symm, unhide HW⟩
  cases h5 : inB s 0 19
  · skip
    have HN : Hid (repB k i x y s n = false) := by show _ = _; unfold repB; rw [h1, h2, h3, h4, h5]; first | rfl | simp
    unfold vReport
    go_enter Try.func17, Try.ntmps17
    go_wp2_with (first | (go_at_call 55; refine (within_any _ _ _ _).mono ?_; rintro e w' ⟨rfl, h9⟩; have h8 := h9.symm; subst h8; clear h9) | (go_at_call 56; refine (isSlot_any _ _).mono ?_; rintro e w' ⟨rfl, h9⟩; have h8 := h9.symm; subst h8; clear h9))
    go_ret
    exact ⟨ret_bool (unhide HN).symm, unhide HW⟩
  cases h6 : inB n 0 19
  · skip
    have HN : Hid (repB k i x y s n = false) := by show _ = _; unfold repB; rw [h1, h2, h3, h4, h5, h6]; first | rfl | simp
    unfold vReport
    go_enter Try.func17, Try.ntmps17
    go_wp2_with (first | (go_at_call 55; refine (within_any _ _ _ _).mono ?_; rintro e w' ⟨rfl, h9⟩; have h8 := h9.symm; subst h8; clear h9) | (go_at_call 56; refine (isSlot_any _ _).mono ?_; rintro e w' ⟨rfl, h9⟩; have h8 := h9.symm; subst h8; clear h9))
    go_ret
    exact ⟨ret_bool (unhide HN).symm, unhide HW⟩
  have HN : Hid (repB k i x y s n = true) := by show _ = _; unfold repB; rw [h1, h2, h3, h4, h5, h6]; first | rfl | simp
  unfold vReport
  go_enter Try.func17, Try.ntmps17
  go_wp2_with (first | (go_at_call 55; refine (within_any _ _ _ _).mono ?_; rintro e w' ⟨rfl, h9⟩; have h8 := h9.symm; subst h8; clear h9) | (go_at_call 56; refine (isSlot_any _ _).mono ?_; rintro e w' ⟨rfl, h9⟩; have h8 := h9.symm; subst h8; clear h9))
  go_ret
  exact ⟨ret_bool (unhide HN).symm, unhide HW⟩


end Go.Proofs.Ytkjikjeecjendaa

/- A region whose order Go leaves open, by an invariant: what is held hangs on which operations have come up; each operation keeps it; all of them done, it is what is asked. -/
namespace Go.Proofs.Ytkjikjeecjendaa
open Go.RowKit

def updL (L : Nat → Bool) (i : Nat) : Nat → Bool := fun j => if j = i then true else L j
theorem updL_same (L : Nat → Bool) (i : Nat) : updL L i i = true := by simp [updL]
theorem updL_ne (L : Nat → Bool) {i j : Nat} (h : j ≠ i) : updL L i j = L j := by simp [updL, h]

def cntL (L : Nat → Bool) : Nat → Nat
  | 0 => 0
  | n + 1 => cntL L n + (if L n then 0 else 1)
theorem cntL_same (L : Nat → Bool) (i : Nat) : ∀ n, n ≤ i → cntL (updL L i) n = cntL L n
  | 0, _ => rfl
  | n + 1, h => by
    have := cntL_same L i n (by omega)
    simp only [cntL, this, updL_ne L (show n ≠ i by omega)]
theorem cntL_upd (L : Nat → Bool) (i : Nat) (hi : L i = false) : ∀ n, i < n → cntL (updL L i) n + 1 = cntL L n
  | 0, h => by omega
  | n + 1, h => by
    by_cases e : i = n
    · subst e
      simp only [cntL, cntL_same L i i (Nat.le_refl _), updL_same, hi]
      simp
    · have := cntL_upd L i hi n (by omega)
      simp only [cntL, updL_ne L (show n ≠ i by omega)]
      omega
theorem cntL_zero (L : Nat → Bool) : ∀ n, cntL L n = 0 → ∀ i, i < n → L i = true
  | 0, _, i, h => by omega
  | n + 1, h0, i, h => by
    simp only [cntL] at h0
    by_cases e : i = n
    · subst e
      cases hl : L i
      · rw [hl] at h0; simp at h0
      · rfl
    · exact cntL_zero L n (by omega) i (by omega)
theorem cntL_le (L : Nat → Bool) : ∀ n, cntL L n ≤ n
  | 0 => Nat.le_refl _
  | n + 1 => by have := cntL_le L n; simp only [cntL]; split <;> omega

/-- Each operation waits for earlier ones alone. -/
def upB : List Oper → Nat → Bool
  | [], _ => true
  | o :: r, i => o.after.all (fun e => !Region.binds .any e || decide (e.on < i)) && upB r (i + 1)
theorem upB_spec : ∀ (l : List Oper) (k : Nat), upB l k = true → ∀ i o, l[i]? = some o → ∀ e ∈ o.after, Region.binds .any e = true → e.on < k + i
  | [], _, _, i, o, h => by simp at h
  | x :: r, k, hb, i, o, h => by
    simp only [upB, Bool.and_eq_true] at hb
    cases i with
    | zero =>
      simp only [List.getElem?_cons_zero, Option.some.injEq] at h
      subst h
      intro e he hbi
      have h1 := Array.all_eq_true'.1 hb.1 e he
      simp only [hbi, Bool.not_true, Bool.false_or, decide_eq_true_eq] at h1
      omega
    | succ i =>
      intro e he hbi
      have := upB_spec r (k + 1) hb.2 i o (by simpa using h) e he hbi
      omega

/-- What is owed of each operation. -/
def StepsI (P : Program) (ops : Array Oper) (Q : Exit → Act → World → Prop) (I : (Nat → Bool) → Act → World → Prop) : List Oper → Nat → Prop
  | [], _ => True
  | o :: rest, i => (∀ (L : Nat → Bool) (a : Act) (w : World), L i = false → (∀ e ∈ o.after, Region.binds .any e = true → L e.on = true) → I L a w →
      ∀ K : Act → World → Prop, (∀ a' w', I (updL L i) a' w' → K a' w') → if Region.wanted o (yielded ops a.tmps) then o.wp P a w K Q else K (a.put o.dst undef) w) ∧ StepsI P ops Q I rest (i + 1)
theorem StepsI.get {P : Program} {ops : Array Oper} {Q : Exit → Act → World → Prop} {I : (Nat → Bool) → Act → World → Prop} : ∀ {l : List Oper} {k : Nat}, StepsI P ops Q I l k → ∀ i o, l[i]? = some o →
    ∀ (L : Nat → Bool) (a : Act) (w : World), L (k + i) = false → (∀ e ∈ o.after, Region.binds .any e = true → L e.on = true) → I L a w →
      ∀ K : Act → World → Prop, (∀ a' w', I (updL L (k + i)) a' w' → K a' w') → if Region.wanted o (yielded ops a.tmps) then o.wp P a w K Q else K (a.put o.dst undef) w
  | [], _, _, i, o, h => by simp at h
  | x :: r, k, hs, i, o, h => by
    cases i with
    | zero =>
      simp only [List.getElem?_cons_zero, Option.some.injEq] at h
      subst h
      exact hs.1
    | succ i =>
      have := StepsI.get hs.2 i o (by simpa using h)
      rw [show k + (i + 1) = k + 1 + i by omega]
      exact this

theorem wpAny_inv {P : Program} {Q : Exit → Act → World → Prop} {l : List Oper} {I : (Nat → Bool) → Act → World → Prop} (hB : upB l 0 = true) (hs : StepsI P l.toArray Q I l 0)
    (hq : ∀ L a w, (∀ i, i < l.length → L i = true) → I L a w → Q .normal a w) : ∀ (fuel : Nat) (listed : Array Bool) (a : Act) (w : World), listed.size = l.length → cntL (fun j => listed.getD j false) l.length ≤ fuel →
    I (fun j => listed.getD j false) a w → wpAny P .any l.toArray Q fuel listed a w := by
  have hall : ∀ listed : Array Bool, listed.size = l.length → Region.ready .any l.toArray listed = [] → ∀ i, i < l.length → listed.getD i false = true := by
    intro listed hsz hr i
    induction i using Nat.strongRecOn with
    | ind i ih =>
      intro hi
      cases hl : listed.getD i false
      · exfalso
        have hm : i ∈ Region.ready .any l.toArray listed := by
          refine mem_ready.2 ⟨?_, l[i], by simp [hi], ?_⟩
          · have : i < listed.size := by omega
            simp [this] at hl ⊢
            exact hl
          · intro e he hb
            exact ih e.on (by have := upB_spec l 0 hB i l[i] (by simp [hi]) e he hb; omega) (by have := upB_spec l 0 hB i l[i] (by simp [hi]) e he hb; omega)
        rw [hr] at hm
        cases hm
      · rfl
  intro fuel
  induction fuel with
  | zero =>
    intro listed a w hsz hc hI
    have h1 := cntL_zero _ _ (Nat.le_zero.1 hc)
    refine ⟨?_, hq _ _ _ h1 hI⟩
    cases hr : Region.ready .any l.toArray listed with
    | nil => rfl
    | cons i r =>
      have hm : i ∈ Region.ready .any l.toArray listed := by rw [hr]; simp
      obtain ⟨h2, o, ho, -⟩ := mem_ready.1 hm
      have hi : i < l.length := by
        have := Array.getElem?_eq_some_iff.1 ho
        simpa using this.1
      have h3 := h1 i hi
      have : i < listed.size := by omega
      simp [this] at h2 h3
      rw [h2] at h3
      cases h3
  | succ fuel ih =>
    intro listed a w hsz hc hI
    refine ⟨fun hr => hq _ _ _ (hall listed hsz hr) hI, fun i hm => ?_⟩
    obtain ⟨h2, o, ho, hd⟩ := mem_ready.1 hm
    have hi : i < l.length := by
      have := Array.getElem?_eq_some_iff.1 ho
      simpa using this.1
    have hlt : i < listed.size := by omega
    have hL : listed.getD i false = false := by simp [hlt] at h2 ⊢; exact h2
    have hup : (fun j => (listed.setIfInBounds i true).getD j false) = updL (fun j => listed.getD j false) i := by
      funext j
      by_cases e : j = i
      · subst e
        simp [updL, hlt]
      · rw [updL_ne _ e]
        exact getD_set_ne false (Ne.symm e)
    have hc' := cntL_upd (fun j => listed.getD j false) i hL l.length hi
    have hst := StepsI.get hs i o (by simpa using ho) (fun j => listed.getD j false) a w (by simpa using hL) hd hI (wpAny P .any l.toArray Q fuel (listed.setIfInBounds i true)) (fun a' w' hI' => ih _ a' w' (by simpa using hsz) (by rw [hup]; omega) (by rw [hup]; simpa using hI'))
    unfold wpOp
    simp only [ho]
    split
    · rename_i hw
      rw [if_pos hw] at hst
      exact .inl hst
    · rename_i hw
      rw [if_neg hw] at hst
      exact hst

/-- The law. -/
theorem wp_region_inv {P : Program} {id : Nat} {Q : Exit → Act → World → Prop} {a : Act} {w : World} {l : List Oper} (hm : P.follows .mixedOrders = true) (hB : upB l 0 = true) (I : (Nat → Bool) → Act → World → Prop)
    (h0 : I (fun _ => false) a w.drew) (hs : StepsI P l.toArray Q I l 0) (hq : ∀ L a w, (∀ i, i < l.length → L i = true) → I L a w → Q .normal a w) : (Code.region id l.toArray true).wp P Q a w := by
  refine wp_region_any hm (wpAny_inv hB hs hq _ _ _ _ (by simp) (by have := cntL_le (fun j => (Array.replicate l.toArray.size false).getD j false) l.length; simpa using this) ?_)
  have : (fun j => (Array.replicate l.toArray.size false).getD j false) = fun _ => false := by
    funext j
    by_cases h : j < l.length <;> simp [h]
  rw [this]
  exact h0

def updU (us : Nat → Value) : Option Tmp → Value → Nat → Value
  | none, _ => us
  | some d, v => fun j => if j = d then v else us j
theorem updU_same (us : Nat → Value) (d : Nat) (v : Value) : updU us (some d) v d = v := by simp [updU]
theorem updU_ne (us : Nat → Value) {d j : Nat} (v : Value) (h : j ≠ d) : updU us (some d) v j = us j := by simp [updU, h]

/-- The frame a with the values us in these slots. -/
def fillA (a : Act) : List Nat → (Nat → Value) → Act
  | [], _ => a
  | s :: r, us => fillA (a.put (some s) (us s)) r us
theorem fillA_put_out {d : Nat} {v : Value} {us : Nat → Value} : ∀ (r : List Nat) (a : Act), d ∉ r → (fillA a r us).put (some d) v = fillA (a.put (some d) v) r us
  | [], _, _ => rfl
  | s :: r, a, h => by
    simp only [fillA]
    rw [fillA_put_out r _ (fun hm => h (List.mem_cons_of_mem _ hm)), Act.put_comm a (us s) v (x := some s) (y := some d) (fun k hk => by cases hk; intro he; cases he; exact h (List.mem_cons_self ..))]
theorem fillA_congr {us us' : Nat → Value} : ∀ (r : List Nat) (a : Act), (∀ s ∈ r, us s = us' s) → fillA a r us = fillA a r us'
  | [], _, _ => rfl
  | s :: r, a, h => by
    simp only [fillA]
    rw [h s (List.mem_cons_self ..), fillA_congr r _ (fun k hk => h k (List.mem_cons_of_mem _ hk))]
theorem put_put (a : Act) (d : Nat) (v u : Value) : (a.put (some d) v).put (some d) u = a.put (some d) u := by
  simp [Act.put]
theorem fillA_put {d : Nat} {v : Value} {us : Nat → Value} : ∀ (r : List Nat) (a : Act), r.Nodup → d ∈ r → (fillA a r us).put (some d) v = fillA a r (updU us (some d) v)
  | [], _, _, h => by cases h
  | s :: r, a, hn, h => by
    rw [List.nodup_cons] at hn
    simp only [fillA]
    by_cases e : d = s
    · subst e
      rw [fillA_put_out r _ hn.1, put_put, updU_same]
      exact fillA_congr r _ (fun k hk => (updU_ne us v (fun (e : k = d) => hn.1 (by rw [← e]; exact hk))).symm)
    · have hd : d ∈ r := by
        rcases List.mem_cons.1 h with h | h
        · exact absurd h e
        · exact h
      rw [updU_ne us v (Ne.symm e)]
      exact fillA_put r _ hn.2 hd
theorem fillA_own : ∀ (r : List Nat) (a : Act), fillA a r (fun s => a.tmps.getD s undef) = a := by
  have own : ∀ (a : Act) (s : Nat), a.put (some s) (a.tmps.getD s undef) = a := by
    intro a s
    obtain ⟨t, d⟩ := a
    simp only [Act.put, Act.mk.injEq, and_true]
    apply Array.ext
    · simp
    · intro i h1 h2
      by_cases e : s = i
      · subst e
        simp [h2]
      · rw [Array.getElem_setIfInBounds]
        · simp [e]
        · exact h2
  intro r a
  suffices h : ∀ (r : List Nat) (us : Nat → Value), (∀ s, us s = a.tmps.getD s undef) → fillA a r us = a from h r _ (fun _ => rfl)
  intro r us hus
  induction r with
  | nil => rfl
  | cons s r ih =>
    simp only [fillA]
    rw [hus s, own]
    exact ih

def depsB (o : Oper) (k : Nat) : Bool := o.after.any (fun e => Region.binds .any e && e.on == k)
def dstIn (slots : List Nat) : List Oper → Bool
  | [] => true
  | o :: r => (match o.dst with | none => true | some d => slots.contains d) && dstIn slots r

/-- What is owed of each operation, the frame told by its slots. -/
def StepsR (P : Program) (ops : Array Oper) (Q : Exit → Act → World → Prop) (a : Act) (slots : List Nat) (R : (Nat → Bool) → (Nat → Value) → World → Prop) : List Oper → Nat → Prop
  | [], _ => True
  | o :: rest, i => (∀ (L : Nat → Bool) (us : Nat → Value) (w : World), L i = false → (∀ k, depsB o k = true → L k = true) → R L us w →
      ∀ K : Act → World → Prop, (∀ v w', R (updL L i) (updU us o.dst v) w' → K ((fillA a slots us).put o.dst v) w') → if Region.wanted o (yielded ops (fillA a slots us).tmps) then o.wp P (fillA a slots us) w K Q else K ((fillA a slots us).put o.dst undef) w) ∧ StepsR P ops Q a slots R rest (i + 1)

theorem put_none (a : Act) (v : Value) : a.put none v = a := rfl

theorem StepsR.stepsI {P : Program} {ops : Array Oper} {Q : Exit → Act → World → Prop} {a : Act} {slots : List Nat} {R : (Nat → Bool) → (Nat → Value) → World → Prop} (hn : slots.Nodup) : ∀ {l : List Oper} {k : Nat}, dstIn slots l = true → StepsR P ops Q a slots R l k →
    StepsI P ops Q (fun L b w => ∃ us, b = fillA a slots us ∧ R L us w) l k
  | [], _, _, _ => True.intro
  | o :: rest, k, hd, hs => by
    simp only [dstIn, Bool.and_eq_true] at hd
    refine ⟨?_, StepsR.stepsI hn hd.2 hs.2⟩
    rintro L b w hi hdep ⟨us, rfl, hR⟩ K hK
    refine hs.1 L us w hi (fun j hj => ?_) hR K (fun v w' hR' => hK _ _ ⟨updU us o.dst v, ?_, hR'⟩)
    · unfold depsB at hj
      rw [Array.any_eq_true'] at hj
      obtain ⟨e, he, hb⟩ := hj
      simp only [Bool.and_eq_true, beq_iff_eq] at hb
      exact hb.2 ▸ hdep e he hb.1
    · have h1 := hd.1
      cases ho : o.dst with
      | none => rfl
      | some d =>
        rw [ho] at h1
        exact fillA_put slots a hn (by simpa using h1)

/-- **The law**: R says what is held when the operations L have come up, the slots reading us. -/
theorem wp_region_slots {P : Program} {id : Nat} {Q : Exit → Act → World → Prop} {a : Act} {w : World} {l : List Oper} (slots : List Nat) (R : (Nat → Bool) → (Nat → Value) → World → Prop) (hm : P.follows .mixedOrders = true) (hB : upB l 0 = true)
    (hn : slots.Nodup) (hd : dstIn slots l = true) (h0 : ∀ us, R (fun _ => false) us w.drew) (hs : StepsR P l.toArray Q a slots R l 0)
    (hq : ∀ L us w, (∀ i, i < l.length → L i = true) → R L us w → Q .normal (fillA a slots us) w) : (Code.region id l.toArray true).wp P Q a w := by
  refine wp_region_inv hm hB (fun L b w => ∃ us, b = fillA a slots us ∧ R L us w) ⟨_, (fillA_own slots a).symm, h0 _⟩ (StepsR.stepsI hn hd hs) ?_
  rintro L b w hL ⟨us, rfl, hR⟩
  exact hq L us w hL hR

/-! Boxes of the call's own, each by its key: made or not yet, with its cells. -/
structure Bk (w0 w : World) (E : Nat → Option (Nat × List Value)) : Prop where
  below : Below w0.heap.size w0 w
  own : ∀ k g vs, E k = some (g, vs) → w0.heap.size ≤ g ∧ OwnV w g vs
  apart : ∀ k k' g vs g' vs', E k = some (g, vs) → E k' = some (g', vs') → k ≠ k' → g ≠ g'
def updE (E : Nat → Option (Nat × List Value)) (k : Nat) (x : Nat × List Value) : Nat → Option (Nat × List Value) := fun j => if j = k then some x else E j
theorem Bk.congr {w0 w : World} {E E' : Nat → Option (Nat × List Value)} (h : Bk w0 w E) (e : ∀ k, E' k = E k) : Bk w0 w E' := by
  have : E' = E := funext e
  rw [this]; exact h
theorem Bk.step {w0 w w' : World} {E : Nat → Option (Nat × List Value)} (h : Bk w0 w E) (hb : Below w.heap.size w w') : Bk w0 w' E :=
  ⟨Below.step h.below hb, fun k g vs e => ⟨(h.own k g vs e).1, (h.own k g vs e).2.step hb⟩, h.apart⟩
theorem Bk.drew {w0 w : World} {E : Nat → Option (Nat × List Value)} (h : Bk w0 w E) : Bk w0 w.drew E := ⟨h.below.drew, fun k g vs e => ⟨(h.own k g vs e).1, (h.own k g vs e).2.drew⟩, h.apart⟩
theorem Bk.made {w0 w : World} {E : Nat → Option (Nat × List Value)} (h : Bk w0 w E) (k : Nat) (cs : Array Value) (t : TypeId) : Bk w0 (w.alloc (.cells cs t)) (updE E k (w.heap.size, cs.toList)) := by
  have hs := h.step (Below.alloc1 w (.cells cs t))
  refine ⟨hs.below, fun j g vs e => ?_, fun j j' g vs g' vs' e e' hne => ?_⟩
  · unfold updE at e
    split at e
    · simp only [Option.some.injEq, Prod.mk.injEq] at e
      obtain ⟨rfl, rfl⟩ := e
      exact ⟨h.below.size, ownV_alloc _ _ _⟩
    · exact hs.own j g vs e
  · unfold updE at e e'
    split at e <;> split at e'
    · omega
    · simp only [Option.some.injEq, Prod.mk.injEq] at e
      obtain ⟨rfl, rfl⟩ := e
      have := (h.own j' g' vs' e').2.lt
      omega
    · simp only [Option.some.injEq, Prod.mk.injEq] at e'
      obtain ⟨rfl, rfl⟩ := e'
      have := (h.own j g vs e).2.lt
      omega
    · exact h.apart j j' g vs g' vs' e e' hne
theorem Bk.set {w0 w : World} {E : Nat → Option (Nat × List Value)} (h : Bk w0 w E) {k g : Nat} {vs : List Value} (hk : E k = some (g, vs)) (i : Nat) (u : Value) (hi : i < vs.length) : Bk w0 (w.setCell ⟨g, i, none⟩ u) (updE E k (g, vs.set i u)) := by
  have hg := h.own k g vs hk
  refine ⟨h.below.setCell hg.1 u, fun j g' vs' e => ?_, fun j j' g1 vs1 g2 vs2 e e' hne => ?_⟩
  · unfold updE at e
    split at e
    · simp only [Option.some.injEq, Prod.mk.injEq] at e
      obtain ⟨rfl, rfl⟩ := e
      exact ⟨hg.1, hg.2.set i u hi⟩
    · rename_i hjk
      exact ⟨(h.own j g' vs' e).1, (h.own j g' vs' e).2.other (a := ⟨g, i, none⟩) (h.apart j k g' vs' g vs e hk hjk) u⟩
  · unfold updE at e e'
    split at e <;> split at e'
    · omega
    · rename_i h1 h2
      simp only [Option.some.injEq, Prod.mk.injEq] at e
      obtain ⟨rfl, rfl⟩ := e
      exact h.apart k j' g vs g2 vs2 hk e' (by omega)
    · rename_i h1 h2
      simp only [Option.some.injEq, Prod.mk.injEq] at e'
      obtain ⟨rfl, rfl⟩ := e'
      exact h.apart j k g1 vs1 g vs e hk (by omega)
    · exact h.apart j j' g1 vs1 g2 vs2 e e' hne

theorem StepsR.nil {P : Program} {ops : Array Oper} {Q : Exit → Act → World → Prop} {a : Act} {slots : List Nat} {R : (Nat → Bool) → (Nat → Value) → World → Prop} {i : Nat} : StepsR P ops Q a slots R [] i := True.intro
theorem StepsR.cons {P : Program} {ops : Array Oper} {Q : Exit → Act → World → Prop} {a : Act} {slots : List Nat} {R : (Nat → Bool) → (Nat → Value) → World → Prop} {o : Oper} {rest : List Oper} {i : Nat} (j : Nat) (hj : i + 1 = j)
    (h : ∀ (L : Nat → Bool) (us : Nat → Value) (w : World), L i = false → (∀ k, depsB o k = true → L k = true) → R L us w →
      ∀ K : Act → World → Prop, (∀ v w', R (updL L i) (updU us o.dst v) w' → K ((fillA a slots us).put o.dst v) w') → if Region.wanted o (yielded ops (fillA a slots us).tmps) then o.wp P (fillA a slots us) w K Q else K ((fillA a slots us).put o.dst undef) w)
    (hr : StepsR P ops Q a slots R rest j) : StepsR P ops Q a slots R (o :: rest) i := ⟨h, by rw [hj]; exact hr⟩
theorem keepF {L : Nat → Bool} {us : Nat → Value} {i k d s : Nat} {v V : Value} (f : L k = true → us s = V) (hk : k ≠ i) (hs : s ≠ d) : updL L i k = true → updU us (some d) v s = V := by
  rw [updL_ne L hk, updU_ne us v hs]; exact f
theorem keepN {L : Nat → Bool} {us : Nat → Value} {i k s : Nat} {v V : Value} (f : L k = true → us s = V) (hk : k ≠ i) : updL L i k = true → updU us none v s = V := by
  rw [updL_ne L hk]; exact f
theorem newF {L : Nat → Bool} {us : Nat → Value} {i d : Nat} {v : Value} : updL L i i = true → updU us (some d) v d = v := fun _ => updU_same us d v
theorem keepL {L : Nat → Bool} {i k j : Nat} (f : L k = true → L j = true) (hk : k ≠ i) : updL L i k = true → updL L i j = true := by
  rw [updL_ne L hk]
  intro h
  by_cases e : j = i
  · subst e; exact updL_same L j
  · rw [updL_ne L e]; exact f h
theorem newL {L : Nat → Bool} {i j : Nat} (h : L j = true) (hj : j ≠ i) : updL L i i = true → updL L i j = true := fun _ => by rw [updL_ne L hj]; exact h
theorem notL {L : Nat → Bool} {k j : Nat} (f : L k = true → L j = true) (h : L j = false) : L k = false := by
  cases e : L k
  · rfl
  · rw [f e] at h; cases h
theorem bk_nil (w : World) : Bk w w (fun _ => none) := ⟨Below.refl _ _, fun k g vs e => (by cases e), fun k k' g vs g' vs' e => (by cases e)⟩
theorem Bk.ownV {w0 w : World} {E : Nat → Option (Nat × List Value)} (h : Bk w0 w E) {k g : Nat} {vs : List Value} (e : E k = some (g, vs)) : OwnV w g vs := (h.own k g vs e).2

/-- The block that a pointer names. -/
def gOf : Value → Nat
  | .pointer (some a) => a.block
  | _ => 0
theorem newG {L : Nat → Bool} {us : Nat → Value} {i d g : Nat} : updL L i i = true → updU us (some d) (.pointer (some ⟨g, 0, none⟩)) d = .pointer (some ⟨gOf (updU us (some d) (.pointer (some ⟨g, 0, none⟩)) d), 0, none⟩) := fun _ => by rw [updU_same]; rfl
theorem keepG {L : Nat → Bool} {us : Nat → Value} {i k d s : Nat} {v : Value} (f : L k = true → us s = .pointer (some ⟨gOf (us s), 0, none⟩)) (hk : k ≠ i) (hs : s ≠ d) : updL L i k = true → updU us (some d) v s = .pointer (some ⟨gOf (updU us (some d) v s), 0, none⟩) := by
  rw [updL_ne L hk, updU_ne us v hs]; exact f
theorem keepGN {L : Nat → Bool} {us : Nat → Value} {i k s : Nat} {v : Value} (f : L k = true → us s = .pointer (some ⟨gOf (us s), 0, none⟩)) (hk : k ≠ i) : updL L i k = true → updU us none v s = .pointer (some ⟨gOf (updU us none v s), 0, none⟩) := by
  rw [updL_ne L hk]; exact f

@[simp] theorem updL_at (L : Nat → Bool) (i j : Nat) : updL L i j = if j = i then true else L j := rfl
@[simp] theorem updU_at (us : Nat → Value) (d : Nat) (v : Value) (j : Nat) : updU us (some d) v j = if j = d then v else us j := rfl
@[simp] theorem updU_no (us : Nat → Value) (v : Value) (j : Nat) : updU us none v j = us j := rfl
@[simp] theorem updE_at (E : Nat → Option (Nat × List Value)) (k : Nat) (x : Nat × List Value) (j : Nat) : updE E k x j = if j = k then some x else E j := rfl
@[simp] theorem gOf_ptr (g o : Nat) (s : Option Nat) : gOf (.pointer (some ⟨g, o, s⟩)) = g := rfl

/-- Two boxes, one behind the other. -/
def E2 (n : Nat) (A C : List Value) : Nat → Option (Nat × List Value)
  | 0 => some (n, A)
  | 1 => some (n + 1, C)
  | _ => none
theorem bk_two (w : World) (A C : Array Value) (t u : TypeId) : Bk w ((w.alloc (.cells A t)).alloc (.cells C u)) (E2 w.heap.size A.toList C.toList) :=
  (((bk_nil w).made 0 A t).made 1 C u).congr (fun k => by rcases k with _ | _ | k <;> simp [E2])
/-- One box. -/
def E1 (n : Nat) (A : List Value) : Nat → Option (Nat × List Value)
  | 0 => some (n, A)
  | _ => none
theorem bk_one (w : World) (A : Array Value) (t : TypeId) : Bk w (w.alloc (.cells A t)) (E1 w.heap.size A.toList) :=
  ((bk_nil w).made 0 A t).congr (fun k => by rcases k with _ | k <;> simp [E1])

theorem same_below {P : Program} {f : FuncId} {args : Array Value} {w : World} {v : Value} (h : Calls P f args w fun e w' => e = .returned v ∧ w' = w) : Calls P f args w fun e w' => e = .returned v ∧ Below w.heap.size w w' :=
  h.mono fun e w' ⟨h1, h2⟩ => ⟨h1, by rw [h2]; exact Below.refl _ _⟩
theorem ifn {c : Bool} {p q : Prop} (h : c = false) (hq : q) : if c = true then p else q := by rw [h]; exact hq

/-! What slots read once their operations have come up: (operation, slot, value). -/
abbrev FL := List (Nat × Nat × Value)
def Facts (L : Nat → Bool) (us : Nat → Value) : FL → Prop
  | [] => True
  | x :: r => (L x.1 = true → us x.2.1 = x.2.2) ∧ Facts L us r
def getE (k : Nat) : FL → Option (Nat × Value)
  | [] => none
  | x :: r => bif x.1 == k then some (x.2.1, x.2.2) else getE k r
def notInB (i d : Nat) : FL → Bool
  | [] => true
  | x :: r => x.1 != i && (x.2.1 != d && notInB i d r)
def noOpB (i : Nat) : FL → Bool
  | [] => true
  | x :: r => x.1 != i && noOpB i r
def checkB (i d : Nat) : FL → Bool
  | [] => false
  | x :: r => bif x.1 == i then x.2.1 == d && notInB i d r else x.2.1 != d && checkB i d r
theorem facts_start (us : Nat → Value) : ∀ fs, Facts (fun _ => false) us fs
  | [] => True.intro
  | _ :: r => ⟨fun h => (by cases h), facts_start us r⟩
theorem Facts.get {L : Nat → Bool} {us : Nat → Value} {k s : Nat} {v : Value} : ∀ {fs : FL}, Facts L us fs → getE k fs = some (s, v) → L k = true → us s = v
  | [], _, h, _ => by cases h
  | x :: r, hf, h, hL => by
    unfold getE at h
    by_cases e : x.1 = k
    · rw [beq_iff_eq.2 e] at h
      simp only [cond_true, Option.some.injEq, Prod.mk.injEq] at h
      rw [← h.1, ← h.2]
      exact hf.1 (by rw [e]; exact hL)
    · rw [beq_eq_false_iff_ne.2 e] at h
      exact Facts.get hf.2 h hL
theorem Facts.stepO {L : Nat → Bool} {us : Nat → Value} {i d : Nat} {v : Value} : ∀ {fs : FL}, Facts L us fs → notInB i d fs = true → Facts (updL L i) (updU us (some d) v) fs
  | [], _, _ => True.intro
  | x :: r, hf, h => by
    simp only [notInB, Bool.and_eq_true, bne_iff_ne] at h
    exact ⟨keepF hf.1 h.1 h.2.1, Facts.stepO hf.2 h.2.2⟩
theorem Facts.stepN {L : Nat → Bool} {us : Nat → Value} {i : Nat} {v : Value} : ∀ {fs : FL}, Facts L us fs → noOpB i fs = true → Facts (updL L i) (updU us none v) fs
  | [], _, _ => True.intro
  | x :: r, hf, h => by
    simp only [noOpB, Bool.and_eq_true, bne_iff_ne] at h
    exact ⟨keepN hf.1 h.1, Facts.stepN hf.2 h.2⟩
theorem Facts.step {L : Nat → Bool} {us : Nat → Value} {i d : Nat} {v : Value} : ∀ {fs : FL}, Facts L us fs → checkB i d fs = true → getE i fs = some (d, v) → Facts (updL L i) (updU us (some d) v) fs
  | [], _, _, h => by cases h
  | x :: r, hf, hc, h => by
    unfold getE at h
    unfold checkB at hc
    by_cases e : x.1 = i
    · rw [beq_iff_eq.2 e] at h hc
      simp only [cond_true, Option.some.injEq, Prod.mk.injEq, Bool.and_eq_true, beq_iff_eq] at h hc
      refine ⟨fun _ => ?_, Facts.stepO hf.2 hc.2⟩
      rw [hc.1, updU_same, h.2]
    · rw [beq_eq_false_iff_ne.2 e] at h hc
      simp only [cond_false, Bool.and_eq_true, bne_iff_ne] at hc
      exact ⟨keepF hf.1 e hc.1, Facts.step hf.2 hc.2 h⟩

end Go.Proofs.Ytkjikjeecjendaa

/- Frames: the program's put, report, PackReport, ReadReport. No statement about the program stands here. -/
namespace Go.Proofs.Ytkjikjeecjendaa
open Go.RowKit

/-- k bytes of the number stand, the lowest at t - 1. -/
def putB (L : List Byte) (t : Nat) (n : Int) : Nat → List Byte
  | 0 => L
  | k + 1 => (putB L t n k).set (t - 1 - k) (toB (n / 256 ^ k))
theorem putB_len (L : List Byte) (t : Nat) (n : Int) (k : Nat) : (putB L t n k).length = L.length := by
  induction k with
  | zero => rfl
  | succ k ih => simp [putB, ih]

set_option maxRecDepth 10000 in
set_option maxHeartbeats 1600000 in
theorem put_any (g : Nat) (L : List Byte) (f t : Nat) (n : Int) (w : World) (h : OwnV w g (L.map eB)) (hl : L.length = 16) (hft : f < t) (ht : t ≤ 16) :
    Calls Try.prog 52 #[.pointer (some ⟨g, 0, none⟩), .int .i64 f, .int .i64 t, .int .i64 n] w fun e w' => e = .returned (.tuple #[]) ∧ OwnV w' g ((putB L t n (t - f)).map eB) ∧ Kept (fun b => b = g) w w' := by
  have HO := hide h
  have HL := hide hl
  clear h hl
  go_enter Try.func52, Try.ntmps52
  go_wp2
  go_loopg [3, 8] (t - f) (fun gg nv iv wr => ∃ k : Nat, k ≤ t - f ∧ gg = t - f - k ∧ iv = .int .i64 ((t : Int) - 1 - k) ∧ nv = .int .i64 (n / 256 ^ k) ∧ OwnV wr g ((putB L t n k).map eB) ∧ Kept (fun b => b = g) w wr)
  case atStart => exact ⟨0, Nat.zero_le _, rfl, by congr 1; omega, by simp, unhide HO, Kept.refl _ _⟩
  case round =>
    obtain ⟨k, hk, rfl, rfl, rfl, hO, hK⟩ := hrel
    clear HO
    by_cases hkn : k < t - f
    · obtain ⟨i, hi⟩ : ∃ i : Nat, i = t - 1 - k := ⟨_, rfl⟩
      have ei : (t : Int) - 1 - k = (i : Int) := by omega
      have hi1 : i < 16 := by omega
      have hi2 : (f : Int) ≤ (i : Int) := by omega
      have hfz := hO.frozen i
      have hlen : i < (putB L t n k).length := by rw [putB_len, unhide HL]; exact hi1
      have hu := hO.cell (map_get (E := eB) (putB L t n k) (i := i) hlen)
      have hN := hO.set i (eB (toB (n / 256 ^ k))) (by rw [List.length_map]; exact hlen)
      have hS : (putB L t n k).set i (toB (n / 256 ^ k)) = putB L t n (k + 1) := by rw [hi]; rfl
      rw [← List.map_set, hS, eB_toB] at hN
      have hd : n / 256 ^ (k + 1) = (n / 256 ^ k) / 256 := by
        rw [Int.pow_succ, Int.ediv_ediv_of_nonneg (by exact Int.pow_nonneg (by omega))]
      have HD := hide hd
      have HN := hide hN
      have HK := hide (hK.setCell (p := ⟨g, i, none⟩) rfl (.int .u8 ((n / 256 ^ k) % 256)))
      have EI := hide hi
      rw [ei]
      clear hO hK hN hS hd hi hlen ei
      generalize (putB L t n k).getD i default = z0 at *
      generalize n / 256 ^ k = y at *
      have hw := wrap_byte y
      generalize y % 256 = y1 at *
      go_wp2
      go_roundg (t - f - (k + 1))
      case measure => omega
      case rel => exact ⟨k + 1, by omega, rfl, by have := unhide EI; go_num, by rw [unhide HD], unhide HN, unhide HK⟩
    · have hkk : k = t - f := by omega
      have HO2 := hide hO
      have HK2 := hide hK
      have hi2 : decide ((f : Int) ≤ (t : Int) - 1 - k) = false := by rw [decide_eq_false_iff_not]; omega
      rw [hkk] at HO2
      clear hO hK hkk
      go_wp2
      go_end0
      exact ⟨rfl, unhide HO2, unhide HK2⟩

end Go.Proofs.Ytkjikjeecjendaa

/- Frames: the program's report, PackReport, ReadReport. Written by wip/mkfm2.py. -/
namespace Go.Proofs.Ytkjikjeecjendaa
open Go.RowKit

theorem FrAt.below {w w' : World} {b o : Nat} {L : List Byte} (h : FrAt w b o L) (hb : Below w.heap.size w w') : FrAt w' b o L := fun i hi => (hb.cell (lt_of_cell (h i hi))).trans (h i hi)
theorem OwnV.frAt {w : World} {g : Nat} {L : List Byte} (h : OwnV w g (L.map eB)) : FrAt w g 0 L := fun i hi => by rw [Nat.zero_add]; exact h.cell (map_get L hi)

/-- The report that a frame tells. -/
def repOf (L : List Byte) : Value := vReport (numB (cutB L 0 1)) (numB (cutB L 1 5)) (fixB (numB (cutB L 5 8))) (fixB (numB (cutB L 8 11))) (numB (cutB L 11 12)) (numB (cutB L 12 13))
def repBOf (L : List Byte) : Bool := repB (numB (cutB L 0 1)) (numB (cutB L 1 5)) (fixB (numB (cutB L 5 8))) (fixB (numB (cutB L 8 11))) (numB (cutB L 11 12)) (numB (cutB L 12 13))

set_option maxRecDepth 10000 in
set_option maxHeartbeats 1600000 in
theorem report_any (b o : Nat) (L : List Byte) (w : World) (h : FrAt w b o L) (hl : L.length = 16) :
    Calls Try.prog 58 #[.pointer (some ⟨b, o, none⟩)] w fun e w' => e = .returned (repOf L) ∧ Below w.heap.size w w' := by
  have HA := hide (Below.alloc1 w (.cells #[.int .i64 0, .int .i64 0, .int .i64 0, .int .i64 0, .int .i64 0, .int .i64 0] 25))
  have H0 : Hid (∀ W, Below w.heap.size w W → Calls Try.prog 57 #[.pointer (some ⟨b, o, none⟩), .int .i64 0, .int .i64 1] W fun e w' => e = .returned (.int .i64 (numB (cutB L 0 1))) ∧ w' = W) := fun W hW => by
    exact number_any b o L 0 1 W (h.below hW) hl (by omega) (by omega) (by omega)
  have H1 : Hid (∀ W, Below w.heap.size w W → Calls Try.prog 57 #[.pointer (some ⟨b, o, none⟩), .int .i64 1, .int .i64 5] W fun e w' => e = .returned (.int .i64 (numB (cutB L 1 5))) ∧ w' = W) := fun W hW => by
    exact number_any b o L 1 5 W (h.below hW) hl (by omega) (by omega) (by omega)
  have H2 : Hid (∀ W, Below w.heap.size w W → Calls Try.prog 80 #[.pointer (some ⟨b, o, none⟩), .int .i64 5, .int .i64 8] W fun e w' => e = .returned (.int .i64 (fixB (numB (cutB L 5 8)))) ∧ w' = W) := fun W hW => by
    exact fix_any b o L 5 8 W (h.below hW) hl (by omega) (by omega) (by omega)
  have H3 : Hid (∀ W, Below w.heap.size w W → Calls Try.prog 80 #[.pointer (some ⟨b, o, none⟩), .int .i64 8, .int .i64 11] W fun e w' => e = .returned (.int .i64 (fixB (numB (cutB L 8 11)))) ∧ w' = W) := fun W hW => by
    exact fix_any b o L 8 11 W (h.below hW) hl (by omega) (by omega) (by omega)
  have H4 : Hid (∀ W, Below w.heap.size w W → Calls Try.prog 57 #[.pointer (some ⟨b, o, none⟩), .int .i64 11, .int .i64 12] W fun e w' => e = .returned (.int .i64 (numB (cutB L 11 12))) ∧ w' = W) := fun W hW => by
    exact number_any b o L 11 12 W (h.below hW) hl (by omega) (by omega) (by omega)
  have H5 : Hid (∀ W, Below w.heap.size w W → Calls Try.prog 57 #[.pointer (some ⟨b, o, none⟩), .int .i64 12, .int .i64 13] W fun e w' => e = .returned (.int .i64 (numB (cutB L 12 13))) ∧ w' = W) := fun W hW => by
    exact number_any b o L 12 13 W (h.below hW) hl (by omega) (by omega) (by omega)
  clear h hl
  unfold repOf
  generalize numB (cutB L 0 1) = n0 at *
  generalize numB (cutB L 1 5) = n1 at *
  generalize fixB (numB (cutB L 5 8)) = n2 at *
  generalize fixB (numB (cutB L 8 11)) = n3 at *
  generalize numB (cutB L 11 12) = n4 at *
  generalize numB (cutB L 12 13) = n5 at *
  go_enter Try.func58, Try.ntmps58
  go_wp2_with fail
  refine (unhide H0 _ (unhide HA)).mono ?_
  rintro e w1 ⟨rfl, h9⟩
  have hB := unhide HA
  have hO := ownV_alloc w #[.int .i64 0, .int .i64 0, .int .i64 0, .int .i64 0, .int .i64 0, .int .i64 0] 25
  rw [← h9] at hB hO
  clear h9 HA
  have HB := hide hB
  have HO := hide hO
  clear hB hO
  go_wp2_with fail
  refine (unhide H1 _ (unhide HB)).mono ?_
  rintro e w2 ⟨rfl, h9⟩
  have h8 := h9.symm
  subst h8
  clear h9
  go_wp2_with fail
  refine (unhide H2 _ (unhide HB)).mono ?_
  rintro e w2 ⟨rfl, h9⟩
  have h8 := h9.symm
  subst h8
  clear h9
  go_wp2_with fail
  refine (unhide H3 _ (unhide HB)).mono ?_
  rintro e w2 ⟨rfl, h9⟩
  have h8 := h9.symm
  subst h8
  clear h9
  go_wp2_with fail
  refine (unhide H4 _ (unhide HB)).mono ?_
  rintro e w2 ⟨rfl, h9⟩
  have h8 := h9.symm
  subst h8
  clear h9
  go_wp2_with fail
  refine (unhide H5 _ (unhide HB)).mono ?_
  rintro e w2 ⟨rfl, h9⟩
  have h8 := h9.symm
  subst h8
  clear h9
  clear H0 H1 H2 H3 H4 H5
  have d0 := (unhide HO).cell (i := 0) rfl
  have df0 := (unhide HO).frozen 0
  have d1 := (unhide HO).cell (i := 1) rfl
  have df1 := (unhide HO).frozen 1
  have d2 := (unhide HO).cell (i := 2) rfl
  have df2 := (unhide HO).frozen 2
  have d3 := (unhide HO).cell (i := 3) rfl
  have df3 := (unhide HO).frozen 3
  have d4 := (unhide HO).cell (i := 4) rfl
  have df4 := (unhide HO).frozen 4
  have d5 := (unhide HO).cell (i := 5) rfl
  have df5 := (unhide HO).frozen 5
  have HW := hide (((((((unhide HB).setCell (p := ⟨w.heap.size, 0, none⟩) (Nat.le_refl _) (.int .i64 n0)).setCell (p := ⟨w.heap.size, 1, none⟩) (Nat.le_refl _) (.int .i64 n1)).setCell (p := ⟨w.heap.size, 2, none⟩) (Nat.le_refl _) (.int .i64 n2)).setCell (p := ⟨w.heap.size, 3, none⟩) (Nat.le_refl _) (.int .i64 n3)).setCell (p := ⟨w.heap.size, 4, none⟩) (Nat.le_refl _) (.int .i64 n4)).setCell (p := ⟨w.heap.size, 5, none⟩) (Nat.le_refl _) (.int .i64 n5))
  go_wp2
  refine bodyPost_ret (v := vReport n0 n1 n2 n3 n4 n5) (by simp [results, Try.results58, go_sem, vReport, d0, d1, d2, d3, d4, d5]) rfl ⟨rfl, unhide HW⟩

/-- The frame of a report, in numbers. -/
def packed (k i x y s n : Int) : List Byte :=
  let f := [toB k, toB (i / 16777216), toB (i / 65536), toB (i / 256), toB i, toB (x / 65536), toB (x / 256), toB x, toB (y / 65536), toB (y / 256), toB y, toB s, toB n, 0]
  f ++ [toB ((crcL f : Nat) / 256 : Int), toB (crcL f : Nat)]
def zero16 : List Byte := List.replicate 16 0
theorem zero16_len : zero16.length = 16 := rfl


end Go.Proofs.Ytkjikjeecjendaa

/- Frames: the specification's draws of a report. No statement about the program stands here. -/
namespace Go.Proofs.Ytkjikjeecjendaa
open Go.RowKit

theorem cur_new {w : World} {v : Value} {n : Nat} (h : BytesIn w.heap.size w v n) (z : Int) (t : TypeId) : Cur (w.alloc (.cells #[v, .int .i64 0, .int .i64 z] t)) w.heap.size v n :=
  ⟨h.below (Below.alloc1 _ _) (Nat.le_refl _), 0, z, by omega, by omega, #[v, .int .i64 0, .int .i64 z], t, Go.Deep.blk_alloc_new _ _, fun i _ => by simp⟩

set_option maxHeartbeats 800000 in
theorem l1New_any (v : Value) (n : Nat) (w : World) (h : BytesIn w.heap.size w v n) (hn : n ≤ 1048576) :
    Calls Try.prog 51 #[v] w fun e w' => e = .returned (.pointer (some ⟨w.heap.size, 0, none⟩)) ∧ Cur w' w.heap.size v n ∧ Below w.heap.size w w' ∧ w'.heap.size = w.heap.size + 1 := by
  have HB := hide h
  obtain ⟨ao, cap, rfl, hl, hm, hc⟩ := h
  have HC := hide hc
  unfold maxLen at hm
  clear hc
  go_enter Try.func51, Try.ntmps51
  go_wp2
  go_loopg [3, 4] n (fun g hv iv wr => w = wr ∧ ∃ k : Nat, ∃ z : Int, k ≤ n ∧ g = n - k ∧ iv = .int .i64 k ∧ hv = .int .i64 z)
  case atStart => exact ⟨rfl, 0, _, Nat.zero_le _, rfl, rfl, rfl⟩
  case round =>
    obtain ⟨rfl, k, z, hk, rfl, rfl, rfl⟩ := hrel
    by_cases hkn : k < n
    · have hkn' : (k : Int) < (n : Int) := by omega
      by_cases hk4 : k < 4000
      · have hk4' : (k : Int) < 4000 := by omega
        obtain ⟨b, o, y, rfl, hlt, hcell, hy1, hy2⟩ := unhide HC k hkn
        go_wp2
        go_roundg (n - (k + 1))
        case measure => omega
        case rel => exact ⟨rfl, k + 1, _, by omega, rfl, by go_num, rfl⟩
      · have hk4' : decide ((k : Int) < 4000) = false := by simp; omega
        go_wp2
        go_ret
        exact ⟨rfl, cur_new (unhide HB) _ _, Below.alloc1 _ _, by simp⟩
    · have hkn' : decide ((k : Int) < (n : Int)) = false := by simp; omega
      go_wp2
      go_ret
      exact ⟨rfl, cur_new (unhide HB) _ _, Below.alloc1 _ _, by simp⟩

set_option maxHeartbeats 800000 in
theorem l1BelowV_any (cb n : Nat) (v : Value) (k : Int) (w : World) (h : Cur w cb v n) (hn : n ≤ 1048576) (hk0 : 1 ≤ k) (hk1 : k ≤ 1000000000) :
    Calls Try.prog 78 #[.pointer (some ⟨cb, 0, none⟩), .int .i64 k] w fun e w' => ∃ x, e = .returned (.int .i64 x) ∧ 0 ≤ x ∧ x < k ∧ Cur w' cb v n ∧ Kept (fun b => b = cb) w w' := by
  by_cases h256 : k ≤ 256
  · exact l1Below_any cb n v k w h hn hk0 h256
  have HC := hide h
  have HK := hide (Kept.refl (fun b => b = cb) w)
  have HB := hide fun V hV => l1Byte_any cb n v V hV hn
  have hk2 : (256 : Int) < k := by omega
  clear h h256
  go_enter Try.func78, Try.ntmps78
  go_wp2_with fail
  refine (unhide HB _ (unhide HC)).mono ?_
  rintro e w1 ⟨x, rfl, hx0, hx1, hc, hk⟩
  replace HC := hide hc
  replace HK := hide ((unhide HK).trans hk)
  clear hc hk
  go_wp2_with fail
  refine (unhide HB _ (unhide HC)).mono ?_
  rintro e w2 ⟨y, rfl, hy0, hy1, hc, hk⟩
  replace HC := hide hc
  replace HK := hide ((unhide HK).trans hk)
  clear hc hk
  go_wp2_with fail
  refine (unhide HB _ (unhide HC)).mono ?_
  rintro e w3 ⟨z, rfl, hz0, hz1, hc, hk⟩
  replace HC := hide hc
  replace HK := hide ((unhide HK).trans hk)
  clear hc hk
  go_wp2_with fail
  refine (unhide HB _ (unhide HC)).mono ?_
  rintro e w4 ⟨t, rfl, ht0, ht1, hc, hk⟩
  replace HC := hide hc
  replace HK := hide ((unhide HK).trans hk)
  clear hc hk HB
  go_wp2
  go_ret
  exact ⟨_, rfl, Int.emod_nonneg _ (by omega), Int.emod_lt_of_pos _ (by omega), unhide HC, unhide HK⟩

set_option maxHeartbeats 800000 in
theorem l1PickInt_any (cb n : Nat) (v : Value) (g m : Nat) (xs : List Int) (w : World) (h : Cur w cb v n) (hn : n ≤ 1048576) (hx : OwnV w g (ints xs)) (hg : g ≠ cb) (hm : xs.length = m) (hm0 : 1 ≤ m) (hm1 : m ≤ 256) :
    Calls Try.prog 79 #[.pointer (some ⟨cb, 0, none⟩), .slice (some ⟨g, 0, none⟩) m m] w fun e w' => ∃ x, e = .returned (.int .i64 x) ∧ Cur w' cb v n ∧ Kept (fun b => b = cb) w w' := by
  have HB := hide (l1Below_any cb n v m w h hn (by omega) (by omega))
  have HX := hide hx
  have HM := hide hm
  clear h hx hm
  go_enter Try.func79, Try.ntmps79
  go_wp2_with fail
  refine (unhide HB).mono ?_
  rintro e w1 ⟨x, rfl, hx0, hx1, hc, hk⟩
  have HC := hide hc
  have HK := hide hk
  obtain ⟨j, rfl⟩ : ∃ j : Nat, x = (j : Int) := ⟨x.toNat, by omega⟩
  have cj := ((unhide HX).kept hk hg).cell (ints_get xs (i := j) (by rw [unhide HM]; omega))
  generalize xs.getD j 0 = y at cj
  clear hc hk
  go_wp2
  go_ret
  exact ⟨_, rfl, unhide HC, unhide HK⟩

end Go.Proofs.Ytkjikjeecjendaa

/- Frames: the specification's l9DrawReport, DrawPackReport. Written by wip/mkfr.py. No statement about the program stands here. -/
namespace Go.Proofs.Ytkjikjeecjendaa
open Go.RowKit

set_option maxRecDepth 10000 in
set_option maxHeartbeats 3200000 in
theorem l9DrawReport_any (cb n : Nat) (v : Value) (w : World) (h : Cur w cb v n) (hn : n ≤ 1048576) :
    Calls Try.prog 50 #[.pointer (some ⟨cb, 0, none⟩)] w fun e w' => ∃ k i x y s m, e = .returned (vReport k i x y s m) ∧ Kept (fun b => b = cb ∨ w.heap.size ≤ b) w w' := by
  have hcl := h.lt
  have HC := hide (h.below (Below.alloc1 w (.cells #[.int .i64 0, .int .i64 0, .int .i64 0, .int .i64 0, .int .i64 0, .int .i64 0] 25)))
  have HK : Hid (Kept (fun b => b = cb ∨ w.heap.size ≤ b) w (w.alloc (.cells #[.int .i64 0, .int .i64 0, .int .i64 0, .int .i64 0, .int .i64 0, .int .i64 0] 25))) := kept_of_below (Below.alloc1 w _)
  have HO := hide (ownV_alloc w #[.int .i64 0, .int .i64 0, .int .i64 0, .int .i64 0, .int .i64 0, .int .i64 0] 25)
  have HB := hide fun W (hW : Cur W cb v n) k h0 h1 => l1BelowV_any cb n v k W hW hn h0 h1
  have HP := hide fun W (hW : Cur W cb v n) g m xs => l1PickInt_any cb n v g m xs W hW hn
  clear h
  go_enter Try.func50, Try.ntmps50
  go_wp2_with fail
  refine (unhide HB _ (unhide HC) _ (by omega) (by omega)).mono ?_
  rintro e w1 ⟨x1, rfl, ha1, hb1, hc, hk⟩
  replace HC := hide hc
  replace HO := hide ((unhide HO).kept hk (by omega))
  replace HK := hide ((unhide HK).trans (hk.mono (fun _ _ h => Or.inl h)))
  clear hc hk
  go_wp2_with fail
  refine (unhide HB _ (unhide HC) _ (by omega) (by omega)).mono ?_
  rintro e w2 ⟨x2, rfl, ha2, hb2, hc, hk⟩
  replace HC := hide hc
  replace HO := hide ((unhide HO).kept hk (by omega))
  replace HK := hide ((unhide HK).trans (hk.mono (fun _ _ h => Or.inl h)))
  clear hc hk
  go_wp2_with fail
  refine (unhide HB _ (unhide HC) _ (by omega) (by omega)).mono ?_
  rintro e w3 ⟨x3, rfl, ha3, hb3, hc, hk⟩
  replace HC := hide hc
  replace HO := hide ((unhide HO).kept hk (by omega))
  replace HK := hide ((unhide HK).trans (hk.mono (fun _ _ h => Or.inl h)))
  clear hc hk
  go_wp2_with fail
  refine (unhide HB _ (unhide HC) _ (by omega) (by omega)).mono ?_
  rintro e w4 ⟨x4, rfl, ha4, hb4, hc, hk⟩
  replace HC := hide hc
  replace HO := hide ((unhide HO).kept hk (by omega))
  replace HK := hide ((unhide HK).trans (hk.mono (fun _ _ h => Or.inl h)))
  clear hc hk
  go_wp2_with fail
  refine (unhide HB _ (unhide HC) _ (by omega) (by omega)).mono ?_
  rintro e w5 ⟨x5, rfl, ha5, hb5, hc, hk⟩
  replace HC := hide hc
  replace HO := hide ((unhide HO).kept hk (by omega))
  replace HK := hide ((unhide HK).trans (hk.mono (fun _ _ h => Or.inl h)))
  clear hc hk
  go_wp2_with fail
  refine (unhide HB _ (unhide HC) _ (by omega) (by omega)).mono ?_
  rintro e w6 ⟨x6, rfl, ha6, hb6, hc, hk⟩
  replace HC := hide hc
  replace HO := hide ((unhide HO).kept hk (by omega))
  replace HK := hide ((unhide HK).trans (hk.mono (fun _ _ h => Or.inl h)))
  clear hc hk
  have hs6 := (unhide HK).size
  have hl6 := (unhide HC).lt
  have hA := Below.alloc1 w6 (.cells #[.int .i64 (1 + x1), .int .i64 (1 + x2), .int .i64 (x3 - 8388608), .int .i64 (x4 - 50), .int .i64 x5, .int .i64 x6] 25)
  have HX := hide (ownV_alloc w6 #[.int .i64 (1 + x1), .int .i64 (1 + x2), .int .i64 (x3 - 8388608), .int .i64 (x4 - 50), .int .i64 x5, .int .i64 x6] 25)
  replace HC := hide ((unhide HC).below hA)
  have hr6 := (unhide HO).lt
  replace HO := hide ((unhide HO).step hA)
  replace HK := hide ((unhide HK).trans (kept_of_below hA))
  clear hA
  go_wp2_with fail
  refine (unhide HB _ (unhide HC) _ (by omega) (by omega)).mono ?_
  rintro e w7 ⟨x7, rfl, ha7, hb7, hc, hk⟩
  replace HC := hide hc
  replace HO := hide ((unhide HO).kept hk (by omega))
  replace HX := hide ((unhide HX).kept hk (by omega))
  replace HK := hide ((unhide HK).trans (hk.mono (fun _ _ h => Or.inl h)))
  clear hc hk HB
  generalize 1 + x1 = f0 at *
  generalize 1 + x2 = f1 at *
  generalize x3 - 8388608 = f2 at *
  generalize x4 - 50 = f3 at *
  have hl7 := (unhide HC).lt
  have hx7 := (unhide HX).lt
  have ho7 := (unhide HO).lt
  by_cases hq0 : x7 = 0
  · subst hq0
    have hA := Below.alloc1 w7 (.cells #[.int .i64 (0), .int .i64 (9), .int .i64 (10)] 3)
    have HY : Hid (OwnV (w7.alloc (.cells #[.int .i64 (0), .int .i64 (9), .int .i64 (10)] 3)) w7.heap.size (ints [0, 9, 10])) := ownV_alloc w7 #[.int .i64 (0), .int .i64 (9), .int .i64 (10)] 3
    replace HC := hide ((unhide HC).below hA)
    replace HO := hide ((unhide HO).step hA)
    replace HX := hide ((unhide HX).step hA)
    replace HK := hide ((unhide HK).trans (kept_of_below hA))
    clear hA
    go_wp2_with fail
    refine (unhide HP _ (unhide HC) _ 3 _ (unhide HY) (by omega) rfl (by omega) (by omega)).mono ?_
    rintro e w8 ⟨y, rfl, hc, hk⟩
    replace HO := hide ((unhide HO).kept hk (by omega))
    replace HX := hide ((unhide HX).kept hk (by omega))
    replace HK := hide ((unhide HK).trans (hk.mono (fun _ _ h => Or.inl h)))
    have k0 := (unhide HX).cell (i := 0) rfl
    have kf := (unhide HX).frozen 0
    have hS := (Kept.refl (fun b => b = w6.heap.size) w8).setCell (p := ⟨w6.heap.size, 0, none⟩) rfl (.int .i64 y)
    have HX2 := hide ((unhide HX).set 0 (.int .i64 y) (by simp))
    have HO2 := hide ((unhide HO).kept hS (by omega))
    have HK2 := hide ((unhide HK).setCell (p := ⟨w6.heap.size, 0, none⟩) (Or.inr hs6) (.int .i64 y))
    generalize hV : w8.setCell ⟨w6.heap.size, 0, none⟩ (.int .i64 y) = V at HX2 HO2 HK2
    clear hc hk hS HC HP HY HX HO HK
    simp only [List.set_cons_zero] at HX2
    have HX := HX2
    have HO := HO2
    have HK := HK2
    clear HX2 HO2 HK2
    have d0 := (unhide HO).cell (i := 0) rfl
    have df0 := (unhide HO).frozen 0
    have e0 := (unhide HX).cell (i := 0) rfl
    have d1 := (unhide HO).cell (i := 1) rfl
    have df1 := (unhide HO).frozen 1
    have e1 := (unhide HX).cell (i := 1) rfl
    have d2 := (unhide HO).cell (i := 2) rfl
    have df2 := (unhide HO).frozen 2
    have e2 := (unhide HX).cell (i := 2) rfl
    have d3 := (unhide HO).cell (i := 3) rfl
    have df3 := (unhide HO).frozen 3
    have e3 := (unhide HX).cell (i := 3) rfl
    have d4 := (unhide HO).cell (i := 4) rfl
    have df4 := (unhide HO).frozen 4
    have e4 := (unhide HX).cell (i := 4) rfl
    have d5 := (unhide HO).cell (i := 5) rfl
    have df5 := (unhide HO).frozen 5
    have e5 := (unhide HX).cell (i := 5) rfl
    have HW := hide (((((((unhide HK).setCell (p := ⟨w.heap.size, 0, none⟩) (Or.inr (Nat.le_refl _)) (.int .i64 y)).setCell (p := ⟨w.heap.size, 1, none⟩) (Or.inr (Nat.le_refl _)) (.int .i64 f1)).setCell (p := ⟨w.heap.size, 2, none⟩) (Or.inr (Nat.le_refl _)) (.int .i64 f2)).setCell (p := ⟨w.heap.size, 3, none⟩) (Or.inr (Nat.le_refl _)) (.int .i64 f3)).setCell (p := ⟨w.heap.size, 4, none⟩) (Or.inr (Nat.le_refl _)) (.int .i64 x5)).setCell (p := ⟨w.heap.size, 5, none⟩) (Or.inr (Nat.le_refl _)) (.int .i64 x6))
    go_wp2
    refine bodyPost_ret (v := vReport y f1 f2 f3 x5 x6) (by simp [results, Try.results50, go_sem, vReport, d0, d1, d2, d3, d4, d5]) rfl ⟨_, _, _, _, _, _, rfl, unhide HW⟩
  by_cases hq1 : x7 = 1
  · subst hq1
    have hA := Below.alloc1 w7 (.cells #[.int .i64 (0), .int .i64 (1), .int .i64 (999999999), .int .i64 (1000000000)] 3)
    have HY : Hid (OwnV (w7.alloc (.cells #[.int .i64 (0), .int .i64 (1), .int .i64 (999999999), .int .i64 (1000000000)] 3)) w7.heap.size (ints [0, 1, 999999999, 1000000000])) := ownV_alloc w7 #[.int .i64 (0), .int .i64 (1), .int .i64 (999999999), .int .i64 (1000000000)] 3
    replace HC := hide ((unhide HC).below hA)
    replace HO := hide ((unhide HO).step hA)
    replace HX := hide ((unhide HX).step hA)
    replace HK := hide ((unhide HK).trans (kept_of_below hA))
    clear hA
    go_wp2_with fail
    refine (unhide HP _ (unhide HC) _ 4 _ (unhide HY) (by omega) rfl (by omega) (by omega)).mono ?_
    rintro e w8 ⟨y, rfl, hc, hk⟩
    replace HO := hide ((unhide HO).kept hk (by omega))
    replace HX := hide ((unhide HX).kept hk (by omega))
    replace HK := hide ((unhide HK).trans (hk.mono (fun _ _ h => Or.inl h)))
    have k1 := (unhide HX).cell (i := 1) rfl
    have kf := (unhide HX).frozen 1
    have hS := (Kept.refl (fun b => b = w6.heap.size) w8).setCell (p := ⟨w6.heap.size, 1, none⟩) rfl (.int .i64 y)
    have HX2 := hide ((unhide HX).set 1 (.int .i64 y) (by simp))
    have HO2 := hide ((unhide HO).kept hS (by omega))
    have HK2 := hide ((unhide HK).setCell (p := ⟨w6.heap.size, 1, none⟩) (Or.inr hs6) (.int .i64 y))
    generalize hV : w8.setCell ⟨w6.heap.size, 1, none⟩ (.int .i64 y) = V at HX2 HO2 HK2
    clear hc hk hS HC HP HY HX HO HK
    simp only [List.set_cons_zero, List.set_cons_succ] at HX2
    have HX := HX2
    have HO := HO2
    have HK := HK2
    clear HX2 HO2 HK2
    have d0 := (unhide HO).cell (i := 0) rfl
    have df0 := (unhide HO).frozen 0
    have e0 := (unhide HX).cell (i := 0) rfl
    have d1 := (unhide HO).cell (i := 1) rfl
    have df1 := (unhide HO).frozen 1
    have e1 := (unhide HX).cell (i := 1) rfl
    have d2 := (unhide HO).cell (i := 2) rfl
    have df2 := (unhide HO).frozen 2
    have e2 := (unhide HX).cell (i := 2) rfl
    have d3 := (unhide HO).cell (i := 3) rfl
    have df3 := (unhide HO).frozen 3
    have e3 := (unhide HX).cell (i := 3) rfl
    have d4 := (unhide HO).cell (i := 4) rfl
    have df4 := (unhide HO).frozen 4
    have e4 := (unhide HX).cell (i := 4) rfl
    have d5 := (unhide HO).cell (i := 5) rfl
    have df5 := (unhide HO).frozen 5
    have e5 := (unhide HX).cell (i := 5) rfl
    have HW := hide (((((((unhide HK).setCell (p := ⟨w.heap.size, 0, none⟩) (Or.inr (Nat.le_refl _)) (.int .i64 f0)).setCell (p := ⟨w.heap.size, 1, none⟩) (Or.inr (Nat.le_refl _)) (.int .i64 y)).setCell (p := ⟨w.heap.size, 2, none⟩) (Or.inr (Nat.le_refl _)) (.int .i64 f2)).setCell (p := ⟨w.heap.size, 3, none⟩) (Or.inr (Nat.le_refl _)) (.int .i64 f3)).setCell (p := ⟨w.heap.size, 4, none⟩) (Or.inr (Nat.le_refl _)) (.int .i64 x5)).setCell (p := ⟨w.heap.size, 5, none⟩) (Or.inr (Nat.le_refl _)) (.int .i64 x6))
    go_wp2
    refine bodyPost_ret (v := vReport f0 y f2 f3 x5 x6) (by simp [results, Try.results50, go_sem, vReport, d0, d1, d2, d3, d4, d5]) rfl ⟨_, _, _, _, _, _, rfl, unhide HW⟩
  by_cases hq2 : x7 = 2
  · subst hq2
    have hA := Below.alloc1 w7 (.cells #[.int .i64 (-8388609), .int .i64 (-8388608), .int .i64 (8388607), .int .i64 (8388608)] 3)
    have HY : Hid (OwnV (w7.alloc (.cells #[.int .i64 (-8388609), .int .i64 (-8388608), .int .i64 (8388607), .int .i64 (8388608)] 3)) w7.heap.size (ints [-8388609, -8388608, 8388607, 8388608])) := ownV_alloc w7 #[.int .i64 (-8388609), .int .i64 (-8388608), .int .i64 (8388607), .int .i64 (8388608)] 3
    replace HC := hide ((unhide HC).below hA)
    replace HO := hide ((unhide HO).step hA)
    replace HX := hide ((unhide HX).step hA)
    replace HK := hide ((unhide HK).trans (kept_of_below hA))
    clear hA
    go_wp2_with fail
    refine (unhide HP _ (unhide HC) _ 4 _ (unhide HY) (by omega) rfl (by omega) (by omega)).mono ?_
    rintro e w8 ⟨y, rfl, hc, hk⟩
    replace HO := hide ((unhide HO).kept hk (by omega))
    replace HX := hide ((unhide HX).kept hk (by omega))
    replace HK := hide ((unhide HK).trans (hk.mono (fun _ _ h => Or.inl h)))
    have k2 := (unhide HX).cell (i := 2) rfl
    have kf := (unhide HX).frozen 2
    have hS := (Kept.refl (fun b => b = w6.heap.size) w8).setCell (p := ⟨w6.heap.size, 2, none⟩) rfl (.int .i64 y)
    have HX2 := hide ((unhide HX).set 2 (.int .i64 y) (by simp))
    have HO2 := hide ((unhide HO).kept hS (by omega))
    have HK2 := hide ((unhide HK).setCell (p := ⟨w6.heap.size, 2, none⟩) (Or.inr hs6) (.int .i64 y))
    generalize hV : w8.setCell ⟨w6.heap.size, 2, none⟩ (.int .i64 y) = V at HX2 HO2 HK2
    clear hc hk hS HC HP HY HX HO HK
    simp only [List.set_cons_zero, List.set_cons_succ] at HX2
    have HX := HX2
    have HO := HO2
    have HK := HK2
    clear HX2 HO2 HK2
    have d0 := (unhide HO).cell (i := 0) rfl
    have df0 := (unhide HO).frozen 0
    have e0 := (unhide HX).cell (i := 0) rfl
    have d1 := (unhide HO).cell (i := 1) rfl
    have df1 := (unhide HO).frozen 1
    have e1 := (unhide HX).cell (i := 1) rfl
    have d2 := (unhide HO).cell (i := 2) rfl
    have df2 := (unhide HO).frozen 2
    have e2 := (unhide HX).cell (i := 2) rfl
    have d3 := (unhide HO).cell (i := 3) rfl
    have df3 := (unhide HO).frozen 3
    have e3 := (unhide HX).cell (i := 3) rfl
    have d4 := (unhide HO).cell (i := 4) rfl
    have df4 := (unhide HO).frozen 4
    have e4 := (unhide HX).cell (i := 4) rfl
    have d5 := (unhide HO).cell (i := 5) rfl
    have df5 := (unhide HO).frozen 5
    have e5 := (unhide HX).cell (i := 5) rfl
    have HW := hide (((((((unhide HK).setCell (p := ⟨w.heap.size, 0, none⟩) (Or.inr (Nat.le_refl _)) (.int .i64 f0)).setCell (p := ⟨w.heap.size, 1, none⟩) (Or.inr (Nat.le_refl _)) (.int .i64 f1)).setCell (p := ⟨w.heap.size, 2, none⟩) (Or.inr (Nat.le_refl _)) (.int .i64 y)).setCell (p := ⟨w.heap.size, 3, none⟩) (Or.inr (Nat.le_refl _)) (.int .i64 f3)).setCell (p := ⟨w.heap.size, 4, none⟩) (Or.inr (Nat.le_refl _)) (.int .i64 x5)).setCell (p := ⟨w.heap.size, 5, none⟩) (Or.inr (Nat.le_refl _)) (.int .i64 x6))
    go_wp2
    refine bodyPost_ret (v := vReport f0 f1 y f3 x5 x6) (by simp [results, Try.results50, go_sem, vReport, d0, d1, d2, d3, d4, d5]) rfl ⟨_, _, _, _, _, _, rfl, unhide HW⟩
  by_cases hq3 : x7 = 3
  · subst hq3
    have hA := Below.alloc1 w7 (.cells #[.int .i64 (-1), .int .i64 (20)] 3)
    have HY : Hid (OwnV (w7.alloc (.cells #[.int .i64 (-1), .int .i64 (20)] 3)) w7.heap.size (ints [-1, 20])) := ownV_alloc w7 #[.int .i64 (-1), .int .i64 (20)] 3
    replace HC := hide ((unhide HC).below hA)
    replace HO := hide ((unhide HO).step hA)
    replace HX := hide ((unhide HX).step hA)
    replace HK := hide ((unhide HK).trans (kept_of_below hA))
    clear hA
    go_wp2_with fail
    refine (unhide HP _ (unhide HC) _ 2 _ (unhide HY) (by omega) rfl (by omega) (by omega)).mono ?_
    rintro e w8 ⟨y, rfl, hc, hk⟩
    replace HO := hide ((unhide HO).kept hk (by omega))
    replace HX := hide ((unhide HX).kept hk (by omega))
    replace HK := hide ((unhide HK).trans (hk.mono (fun _ _ h => Or.inl h)))
    have k4 := (unhide HX).cell (i := 4) rfl
    have kf := (unhide HX).frozen 4
    have hS := (Kept.refl (fun b => b = w6.heap.size) w8).setCell (p := ⟨w6.heap.size, 4, none⟩) rfl (.int .i64 y)
    have HX2 := hide ((unhide HX).set 4 (.int .i64 y) (by simp))
    have HO2 := hide ((unhide HO).kept hS (by omega))
    have HK2 := hide ((unhide HK).setCell (p := ⟨w6.heap.size, 4, none⟩) (Or.inr hs6) (.int .i64 y))
    generalize hV : w8.setCell ⟨w6.heap.size, 4, none⟩ (.int .i64 y) = V at HX2 HO2 HK2
    clear hc hk hS HC HP HY HX HO HK
    simp only [List.set_cons_zero, List.set_cons_succ] at HX2
    have HX := HX2
    have HO := HO2
    have HK := HK2
    clear HX2 HO2 HK2
    have d0 := (unhide HO).cell (i := 0) rfl
    have df0 := (unhide HO).frozen 0
    have e0 := (unhide HX).cell (i := 0) rfl
    have d1 := (unhide HO).cell (i := 1) rfl
    have df1 := (unhide HO).frozen 1
    have e1 := (unhide HX).cell (i := 1) rfl
    have d2 := (unhide HO).cell (i := 2) rfl
    have df2 := (unhide HO).frozen 2
    have e2 := (unhide HX).cell (i := 2) rfl
    have d3 := (unhide HO).cell (i := 3) rfl
    have df3 := (unhide HO).frozen 3
    have e3 := (unhide HX).cell (i := 3) rfl
    have d4 := (unhide HO).cell (i := 4) rfl
    have df4 := (unhide HO).frozen 4
    have e4 := (unhide HX).cell (i := 4) rfl
    have d5 := (unhide HO).cell (i := 5) rfl
    have df5 := (unhide HO).frozen 5
    have e5 := (unhide HX).cell (i := 5) rfl
    have HW := hide (((((((unhide HK).setCell (p := ⟨w.heap.size, 0, none⟩) (Or.inr (Nat.le_refl _)) (.int .i64 f0)).setCell (p := ⟨w.heap.size, 1, none⟩) (Or.inr (Nat.le_refl _)) (.int .i64 f1)).setCell (p := ⟨w.heap.size, 2, none⟩) (Or.inr (Nat.le_refl _)) (.int .i64 f2)).setCell (p := ⟨w.heap.size, 3, none⟩) (Or.inr (Nat.le_refl _)) (.int .i64 f3)).setCell (p := ⟨w.heap.size, 4, none⟩) (Or.inr (Nat.le_refl _)) (.int .i64 y)).setCell (p := ⟨w.heap.size, 5, none⟩) (Or.inr (Nat.le_refl _)) (.int .i64 x6))
    go_wp2
    refine bodyPost_ret (v := vReport f0 f1 f2 f3 y x6) (by simp [results, Try.results50, go_sem, vReport, d0, d1, d2, d3, d4, d5]) rfl ⟨_, _, _, _, _, _, rfl, unhide HW⟩
  have g0 : (x7 == 0) = false := by simpa using hq0
  have g1 : (x7 == 1) = false := by simpa using hq1
  have g2 : (x7 == 2) = false := by simpa using hq2
  have g3 : (x7 == 3) = false := by simpa using hq3
  clear hq0 hq1 hq2 hq3 HP HC
  have d0 := (unhide HO).cell (i := 0) rfl
  have df0 := (unhide HO).frozen 0
  have e0 := (unhide HX).cell (i := 0) rfl
  have d1 := (unhide HO).cell (i := 1) rfl
  have df1 := (unhide HO).frozen 1
  have e1 := (unhide HX).cell (i := 1) rfl
  have d2 := (unhide HO).cell (i := 2) rfl
  have df2 := (unhide HO).frozen 2
  have e2 := (unhide HX).cell (i := 2) rfl
  have d3 := (unhide HO).cell (i := 3) rfl
  have df3 := (unhide HO).frozen 3
  have e3 := (unhide HX).cell (i := 3) rfl
  have d4 := (unhide HO).cell (i := 4) rfl
  have df4 := (unhide HO).frozen 4
  have e4 := (unhide HX).cell (i := 4) rfl
  have d5 := (unhide HO).cell (i := 5) rfl
  have df5 := (unhide HO).frozen 5
  have e5 := (unhide HX).cell (i := 5) rfl
  have HW := hide (((((((unhide HK).setCell (p := ⟨w.heap.size, 0, none⟩) (Or.inr (Nat.le_refl _)) (.int .i64 f0)).setCell (p := ⟨w.heap.size, 1, none⟩) (Or.inr (Nat.le_refl _)) (.int .i64 f1)).setCell (p := ⟨w.heap.size, 2, none⟩) (Or.inr (Nat.le_refl _)) (.int .i64 f2)).setCell (p := ⟨w.heap.size, 3, none⟩) (Or.inr (Nat.le_refl _)) (.int .i64 f3)).setCell (p := ⟨w.heap.size, 4, none⟩) (Or.inr (Nat.le_refl _)) (.int .i64 x5)).setCell (p := ⟨w.heap.size, 5, none⟩) (Or.inr (Nat.le_refl _)) (.int .i64 x6))
  go_wp2
  refine bodyPost_ret (v := vReport f0 f1 f2 f3 x5 x6) (by simp [results, Try.results50, go_sem, vReport, d0, d1, d2, d3, d4, d5]) rfl ⟨_, _, _, _, _, _, rfl, unhide HW⟩

set_option maxRecDepth 10000 in
set_option maxHeartbeats 1600000 in
theorem drawPackReport_any (v : Value) (n : Nat) (w : World) (h : BytesIn w.heap.size w v n) (hn : n ≤ 1048576) :
    Calls Try.prog 14 #[v] w fun e w' => ∃ k i x y s m, e = .returned (vReport k i x y s m) ∧ Below w.heap.size w w' := by
  have hA := Below.alloc1 w (.cells #[.int .i64 0, .int .i64 0, .int .i64 0, .int .i64 0, .int .i64 0, .int .i64 0] 25)
  have HO := hide (ownV_alloc w #[.int .i64 0, .int .i64 0, .int .i64 0, .int .i64 0, .int .i64 0, .int .i64 0] 25)
  have hsz : (w.alloc (.cells #[.int .i64 0, .int .i64 0, .int .i64 0, .int .i64 0, .int .i64 0, .int .i64 0] 25)).heap.size = w.heap.size + 1 := by simp
  have h1 : BytesIn (w.heap.size + 1) (w.alloc (.cells #[.int .i64 0, .int .i64 0, .int .i64 0, .int .i64 0, .int .i64 0, .int .i64 0] 25)) v n := by
    obtain ⟨ao, cap, e, h1, h2, h3⟩ := h.below hA (Nat.le_refl _)
    refine ⟨ao, cap, e, h1, h2, fun i hi => ?_⟩
    obtain ⟨b, o, x, q1, q2, q3⟩ := h3 i hi
    exact ⟨b, o, x, q1, by omega, q3⟩
  rw [← hsz] at h1
  have HN := hide (l1New_any v n _ h1 hn)
  have HD := hide fun W cb (hW : Cur W cb v n) => l9DrawReport_any cb n v W hW hn
  obtain ⟨ao, cap, rfl, -⟩ := h
  have HA := hide hA
  have HSZ := hide hsz
  clear h1 hsz hA
  go_enter Try.func14, Try.ntmps14
  go_wp2_with fail
  refine (unhide HN).mono ?_
  rintro e w1 ⟨rfl, hc, hb, hs⟩
  rw [unhide HSZ] at hc ⊢
  have HC := hide hc
  replace HA := hide (Below.step (unhide HA) hb)
  replace HO := hide ((unhide HO).step hb)
  have hs1 := (unhide HA).size
  clear hc hb hs HN HSZ
  go_wp2_with fail
  refine (unhide HD _ _ (unhide HC)).mono ?_
  rintro e w2 ⟨k, i, x, y, s, m, rfl, hk⟩
  have ho1 := (unhide HO).lt
  replace HA := hide ((unhide HA).trans (hk.below (B := w.heap.size) hs1 (fun b h => by omega)))
  replace HO := hide ((unhide HO).kept hk (by omega))
  clear hk HD HC
  unfold vReport
  have d0 := (unhide HO).cell (i := 0) rfl
  have df0 := (unhide HO).frozen 0
  have d1 := (unhide HO).cell (i := 1) rfl
  have df1 := (unhide HO).frozen 1
  have d2 := (unhide HO).cell (i := 2) rfl
  have df2 := (unhide HO).frozen 2
  have d3 := (unhide HO).cell (i := 3) rfl
  have df3 := (unhide HO).frozen 3
  have d4 := (unhide HO).cell (i := 4) rfl
  have df4 := (unhide HO).frozen 4
  have d5 := (unhide HO).cell (i := 5) rfl
  have df5 := (unhide HO).frozen 5
  have HW := hide (((((((unhide HA).setCell (p := ⟨w.heap.size, 0, none⟩) (Nat.le_refl _) (.int .i64 k)).setCell (p := ⟨w.heap.size, 1, none⟩) (Nat.le_refl _) (.int .i64 i)).setCell (p := ⟨w.heap.size, 2, none⟩) (Nat.le_refl _) (.int .i64 x)).setCell (p := ⟨w.heap.size, 3, none⟩) (Nat.le_refl _) (.int .i64 y)).setCell (p := ⟨w.heap.size, 4, none⟩) (Nat.le_refl _) (.int .i64 s)).setCell (p := ⟨w.heap.size, 5, none⟩) (Nat.le_refl _) (.int .i64 m))
  go_wp2
  refine bodyPost_ret (v := vReport k i x y s m) (by simp [results, Try.results14, go_sem, vReport, d0, d1, d2, d3, d4, d5]) rfl ⟨_, _, _, _, _, _, rfl, unhide HW⟩

end Go.Proofs.Ytkjikjeecjendaa

/- Frames: the program's PackReport. Written by wip/mkfm2.py. -/
namespace Go.Proofs.Ytkjikjeecjendaa
open Go.RowKit

def stage0 : List Byte := zero16
def stage1 (k : Int) : List Byte := putB stage0 1 k 1
theorem stage1_len (k : Int) : (stage1 k).length = 16 := by unfold stage1; rw [putB_len]; rfl
def stage2 (k i : Int) : List Byte := putB (stage1 k) 5 i 4
theorem stage2_len (k i : Int) : (stage2 k i).length = 16 := by unfold stage2; rw [putB_len]; exact stage1_len k
def stage3 (k i x : Int) : List Byte := putB (stage2 k i) 8 x 3
theorem stage3_len (k i x : Int) : (stage3 k i x).length = 16 := by unfold stage3; rw [putB_len]; exact stage2_len k i
def stage4 (k i x y : Int) : List Byte := putB (stage3 k i x) 11 y 3
theorem stage4_len (k i x y : Int) : (stage4 k i x y).length = 16 := by unfold stage4; rw [putB_len]; exact stage3_len k i x
def stage5 (k i x y s : Int) : List Byte := putB (stage4 k i x y) 12 s 1
theorem stage5_len (k i x y s : Int) : (stage5 k i x y s).length = 16 := by unfold stage5; rw [putB_len]; exact stage4_len k i x y
def stage6 (k i x y s n : Int) : List Byte := putB (stage5 k i x y s) 13 n 1
theorem stage6_len (k i x y s n : Int) : (stage6 k i x y s n).length = 16 := by unfold stage6; rw [putB_len]; exact stage5_len k i x y s
theorem stage6_eq (k i x y s n : Int) : stage6 k i x y s n = [toB k, toB (i / 16777216), toB (i / 65536), toB (i / 256), toB i, toB (x / 65536), toB (x / 256), toB x, toB (y / 65536), toB (y / 256), toB y, toB s, toB n, 0, 0, 0] := by
  simp [stage6, stage5, stage4, stage3, stage2, stage1, stage0, zero16, putB, List.replicate]
theorem packed_eq (k i x y s n : Int) : putB (stage6 k i x y s n) 16 (crcL ((stage6 k i x y s n).take 14) : Nat) 2 = packed k i x y s n := by
  rw [stage6_eq]
  simp [putB, packed]
theorem packed_len (k i x y s n : Int) : (packed k i x y s n).length = 16 := by simp [packed]

theorem run_arrF (b o cap : Nat) (w : World) : (Instr.arrayAt 136 (.slice (some ⟨b, o, none⟩) 16 cap)).run Try.prog w = .ok (.pointer (some ⟨b, o, none⟩)) w := by
  have e := Try.arrF
  rw [Try.lenF] at e
  simp [Instr.arrayAt, run_underlying e, go_sem]

def packF (k i x y s n : Int) : List Byte := if repB k i x y s n then packed k i x y s n else []
theorem made16 : (madeCells (Value.int .u8 0).cells (16 * 1)).toList = stage0.map eB := by
  simp [madeCells, Value.cells, stage0, zero16, eB, List.replicate]
  rfl

set_option maxRecDepth 10000 in
set_option maxHeartbeats 1600000 in
theorem implPackReport_any (k i x y s n : Int) (w : World) :
    Calls Try.prog 15 #[vReport k i x y s n] w fun e w' => ∃ a m cp, e = .returned (.tuple #[.slice a m cp, .bool (repB k i x y s n)]) ∧ OwnBy w.heap.size w' (.slice a m cp) (packF k i x y s n) ∧ Below w.heap.size w w' := by
  have HB := hide (Below.alloc1 w (.cells #[.int .i64 k, .int .i64 i, .int .i64 x, .int .i64 y, .int .i64 s, .int .i64 n] 25))
  have HO := hide (ownV_alloc w #[.int .i64 k, .int .i64 i, .int .i64 x, .int .i64 y, .int .i64 s, .int .i64 n] 25)
  have HS := hide fun W => implReportOk_any k i x y s n W
  have P0 : Hid (∀ g W, OwnV W g ((stage0 ).map eB) → Calls Try.prog 52 #[.pointer (some ⟨g, 0, none⟩), .int .i64 0, .int .i64 1, .int .i64 k] W fun e w' => e = .returned (.tuple #[]) ∧ OwnV w' g ((stage1 k).map eB) ∧ Kept (fun b => b = g) W w') := fun g W hW => by
    exact put_any g _ 0 1 k W hW (rfl) (by omega) (by omega)
  have P1 : Hid (∀ g W, OwnV W g ((stage1 k).map eB) → Calls Try.prog 52 #[.pointer (some ⟨g, 0, none⟩), .int .i64 1, .int .i64 5, .int .i64 i] W fun e w' => e = .returned (.tuple #[]) ∧ OwnV w' g ((stage2 k i).map eB) ∧ Kept (fun b => b = g) W w') := fun g W hW => by
    exact put_any g _ 1 5 i W hW (stage1_len k) (by omega) (by omega)
  have P2 : Hid (∀ g W, OwnV W g ((stage2 k i).map eB) → Calls Try.prog 52 #[.pointer (some ⟨g, 0, none⟩), .int .i64 5, .int .i64 8, .int .i64 x] W fun e w' => e = .returned (.tuple #[]) ∧ OwnV w' g ((stage3 k i x).map eB) ∧ Kept (fun b => b = g) W w') := fun g W hW => by
    exact put_any g _ 5 8 x W hW (stage2_len k i) (by omega) (by omega)
  have P3 : Hid (∀ g W, OwnV W g ((stage3 k i x).map eB) → Calls Try.prog 52 #[.pointer (some ⟨g, 0, none⟩), .int .i64 8, .int .i64 11, .int .i64 y] W fun e w' => e = .returned (.tuple #[]) ∧ OwnV w' g ((stage4 k i x y).map eB) ∧ Kept (fun b => b = g) W w') := fun g W hW => by
    exact put_any g _ 8 11 y W hW (stage3_len k i x) (by omega) (by omega)
  have P4 : Hid (∀ g W, OwnV W g ((stage4 k i x y).map eB) → Calls Try.prog 52 #[.pointer (some ⟨g, 0, none⟩), .int .i64 11, .int .i64 12, .int .i64 s] W fun e w' => e = .returned (.tuple #[]) ∧ OwnV w' g ((stage5 k i x y s).map eB) ∧ Kept (fun b => b = g) W w') := fun g W hW => by
    exact put_any g _ 11 12 s W hW (stage4_len k i x y) (by omega) (by omega)
  have P5 : Hid (∀ g W, OwnV W g ((stage5 k i x y s).map eB) → Calls Try.prog 52 #[.pointer (some ⟨g, 0, none⟩), .int .i64 12, .int .i64 13, .int .i64 n] W fun e w' => e = .returned (.tuple #[]) ∧ OwnV w' g ((stage6 k i x y s n).map eB) ∧ Kept (fun b => b = g) W w') := fun g W hW => by
    exact put_any g _ 12 13 n W hW (stage5_len k i x y s) (by omega) (by omega)
  have PC := hide fun g W (hW : OwnV W g ((stage6 k i x y s n).map eB)) => check_any g 0 _ W hW.frAt (stage6_len k i x y s n)
  have P6 : Hid (∀ g W, OwnV W g ((stage6 k i x y s n).map eB) → Calls Try.prog 52 #[.pointer (some ⟨g, 0, none⟩), .int .i64 14, .int .i64 16, .int .i64 (crcL ((stage6 k i x y s n).take 14) : Nat)] W fun e w' => e = .returned (.tuple #[]) ∧ OwnV w' g ((packed k i x y s n).map eB) ∧ Kept (fun b => b = g) W w') := fun g W hW => by
    rw [← packed_eq]
    exact put_any g _ 14 16 _ W hW (stage6_len k i x y s n) (by omega) (by omega)
  have HN : Hid (packF k i x y s n = if repB k i x y s n then packed k i x y s n else []) := rfl
  have HPL := hide (packed_len k i x y s n)
  generalize crcL ((stage6 k i x y s n).take 14) = cc at *
  generalize packF k i x y s n = pf at *
  generalize packed k i x y s n = pk at *
  generalize hs6 : stage6 k i x y s n = s6 at *
  generalize hs5 : stage5 k i x y s = s5 at *
  generalize hs4 : stage4 k i x y = s4 at *
  generalize hs3 : stage3 k i x = s3 at *
  generalize hs2 : stage2 k i = s2 at *
  generalize hs1 : stage1 k = s1 at *

  clear hs1 hs2 hs3 hs4 hs5 hs6
  unfold vReport at HS ⊢
  go_enter Try.func15, Try.ntmps15
  go_wp2_with fail
  refine (unhide HS _).mono ?_
  rintro e w1 ⟨rfl, hb⟩
  replace HB := hide (Below.step (unhide HB) hb)
  replace HO := hide ((unhide HO).step hb)
  clear hb HS
  cases hr : repB k i x y s n
  · rw [hr] at HN
    clear P0 P1 P2 P3 P4 P5 P6 PC
    go_wp2
    refine bodyPost_ret (v := .tuple #[.slice none 0 0, .bool false]) (by simp [results, Try.results15, go_sem]) rfl ⟨none, 0, 0, by rw [hr], ?_, unhide HB⟩
    rw [unhide HN]
    exact ⟨none, 0, rfl, Nat.le_refl _, Nat.zero_le _, fun h => absurd rfl h⟩
  rw [hr, if_pos rfl] at HN
  have hmk := run_make_recs (P := Try.prog) 22 5 _ 1 1 Try.underlying22 Try.infoU8 .i64 .i64 16 (by omega) (by omega)
  have hF := ownV_alloc w1 (madeCells (Value.int .u8 0).cells (16 * 1)) 5
  rw [made16] at hF
  have HF := hide hF
  have hA := Below.alloc1 w1 (.cells (madeCells (Value.int .u8 0).cells (16 * 1)) 5)
  have hlt := (unhide HO).lt
  replace HB := hide (Below.step (unhide HB) hA)
  replace HO := hide ((unhide HO).step hA)
  clear hF hA
  obtain ⟨g, eg⟩ : ∃ g, g = w1.heap.size := ⟨_, rfl⟩
  rw [← eg] at HF hlt
  have hgn : g ≠ w.heap.size := by omega
  have hgl : w.heap.size ≤ g := by omega
  have EG := hide eg
  clear eg
  generalize hV : w1.alloc (.cells (madeCells (Value.int .u8 0).cells (16 * 1)) 5) = V at HB HO HF
  have hmk' : (Instr.makeSlice 22 (.int .i64 16) (.int .i64 16)).run Try.prog w1 = .ok (.slice (some ⟨g, 0, none⟩) 16 16) V := by
    rw [← hV, unhide EG]
    exact hmk w1
  clear hmk hV EG
  have har := run_arrF g 0 16
  have d0 := (unhide HO).cell (i := 0) rfl
  have d1 := (unhide HO).cell (i := 1) rfl
  have d2 := (unhide HO).cell (i := 2) rfl
  have d3 := (unhide HO).cell (i := 3) rfl
  have d4 := (unhide HO).cell (i := 4) rfl
  have d5 := (unhide HO).cell (i := 5) rfl
  go_wp2_with fail
  refine (unhide P0 _ _ (unhide HF)).mono ?_
  rintro e w2 ⟨rfl, ho, hk⟩
  replace HB := hide ((unhide HB).trans (hk.below (B := w.heap.size) (unhide HB).size (fun b e => by omega)))
  replace HO := hide ((unhide HO).kept hk (fun e => hgn e.symm))
  replace HF := hide ho
  clear ho hk P0 d0 d1 d2 d3 d4 d5 hmk'
  have d0 := (unhide HO).cell (i := 0) rfl
  have d1 := (unhide HO).cell (i := 1) rfl
  have d2 := (unhide HO).cell (i := 2) rfl
  have d3 := (unhide HO).cell (i := 3) rfl
  have d4 := (unhide HO).cell (i := 4) rfl
  have d5 := (unhide HO).cell (i := 5) rfl
  go_wp2_with fail
  refine (unhide P1 _ _ (unhide HF)).mono ?_
  rintro e w3 ⟨rfl, ho, hk⟩
  replace HB := hide ((unhide HB).trans (hk.below (B := w.heap.size) (unhide HB).size (fun b e => by omega)))
  replace HO := hide ((unhide HO).kept hk (fun e => hgn e.symm))
  replace HF := hide ho
  clear ho hk P1 d0 d1 d2 d3 d4 d5
  have d0 := (unhide HO).cell (i := 0) rfl
  have d1 := (unhide HO).cell (i := 1) rfl
  have d2 := (unhide HO).cell (i := 2) rfl
  have d3 := (unhide HO).cell (i := 3) rfl
  have d4 := (unhide HO).cell (i := 4) rfl
  have d5 := (unhide HO).cell (i := 5) rfl
  go_wp2_with fail
  refine (unhide P2 _ _ (unhide HF)).mono ?_
  rintro e w4 ⟨rfl, ho, hk⟩
  replace HB := hide ((unhide HB).trans (hk.below (B := w.heap.size) (unhide HB).size (fun b e => by omega)))
  replace HO := hide ((unhide HO).kept hk (fun e => hgn e.symm))
  replace HF := hide ho
  clear ho hk P2 d0 d1 d2 d3 d4 d5
  have d0 := (unhide HO).cell (i := 0) rfl
  have d1 := (unhide HO).cell (i := 1) rfl
  have d2 := (unhide HO).cell (i := 2) rfl
  have d3 := (unhide HO).cell (i := 3) rfl
  have d4 := (unhide HO).cell (i := 4) rfl
  have d5 := (unhide HO).cell (i := 5) rfl
  go_wp2_with fail
  refine (unhide P3 _ _ (unhide HF)).mono ?_
  rintro e w5 ⟨rfl, ho, hk⟩
  replace HB := hide ((unhide HB).trans (hk.below (B := w.heap.size) (unhide HB).size (fun b e => by omega)))
  replace HO := hide ((unhide HO).kept hk (fun e => hgn e.symm))
  replace HF := hide ho
  clear ho hk P3 d0 d1 d2 d3 d4 d5
  have d0 := (unhide HO).cell (i := 0) rfl
  have d1 := (unhide HO).cell (i := 1) rfl
  have d2 := (unhide HO).cell (i := 2) rfl
  have d3 := (unhide HO).cell (i := 3) rfl
  have d4 := (unhide HO).cell (i := 4) rfl
  have d5 := (unhide HO).cell (i := 5) rfl
  go_wp2_with fail
  refine (unhide P4 _ _ (unhide HF)).mono ?_
  rintro e w6 ⟨rfl, ho, hk⟩
  replace HB := hide ((unhide HB).trans (hk.below (B := w.heap.size) (unhide HB).size (fun b e => by omega)))
  replace HO := hide ((unhide HO).kept hk (fun e => hgn e.symm))
  replace HF := hide ho
  clear ho hk P4 d0 d1 d2 d3 d4 d5
  have d0 := (unhide HO).cell (i := 0) rfl
  have d1 := (unhide HO).cell (i := 1) rfl
  have d2 := (unhide HO).cell (i := 2) rfl
  have d3 := (unhide HO).cell (i := 3) rfl
  have d4 := (unhide HO).cell (i := 4) rfl
  have d5 := (unhide HO).cell (i := 5) rfl
  go_wp2_with fail
  refine (unhide P5 _ _ (unhide HF)).mono ?_
  rintro e w7 ⟨rfl, ho, hk⟩
  replace HB := hide ((unhide HB).trans (hk.below (B := w.heap.size) (unhide HB).size (fun b e => by omega)))
  replace HO := hide ((unhide HO).kept hk (fun e => hgn e.symm))
  replace HF := hide ho
  clear ho hk P5 d0 d1 d2 d3 d4 d5
  go_wp2_with fail
  refine (unhide PC _ _ (unhide HF)).mono ?_
  rintro e w8 ⟨rfl, h9⟩
  have h8 := h9.symm
  subst h8
  clear h9 PC
  go_wp2_with fail
  refine (unhide P6 _ _ (unhide HF)).mono ?_
  rintro e w9 ⟨rfl, ho, hk⟩
  replace HB := hide ((unhide HB).trans (hk.below (B := w.heap.size) (unhide HB).size (fun b e => by omega)))
  replace HF := hide ho
  clear ho hk P6
  go_wp2
  refine bodyPost_ret (v := .tuple #[.slice (some ⟨g, 0, none⟩) 16 16, .bool true]) (by simp [results, Try.results15, go_sem]) rfl ⟨some ⟨g, 0, none⟩, 16, 16, by rw [hr], ?_, unhide HB⟩
  rw [unhide HN]
  exact ⟨_, 16, by rw [unhide HPL], by rw [unhide HPL]; exact Nat.le_refl _, by unfold maxLen; omega, fun _ => ⟨g, rfl, hgl, unhide HF⟩⟩

end Go.Proofs.Ytkjikjeecjendaa
