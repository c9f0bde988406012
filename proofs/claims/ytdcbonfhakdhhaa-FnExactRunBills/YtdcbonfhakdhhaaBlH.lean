/- Papers: words; contracts of the program's isHolder, originalsFor, paperOf, title, written. No statement about the program stands here. -/
import Derived.Test.YtdcbonfhakdhhaaBlX
import Derived.Test.YtdcbonfhakdhhaaBlB
import Derived.Laws.StructEq
import Derived.Deep.DeepCutAuto
namespace Go.Proofs.Ytdcbonfhakdhhaa
open Go.RowKit

abbrev nob : ByteArray := ⟨#[]⟩
def ptr : Option Nat → Value
  | none => .pointer none
  | some h => .pointer (some ⟨h, 0, none⟩)
/-- Block og holds originals: a pointer to who holds each (H), nil where nobody does. -/
structure Orig (B : Nat) (w : World) (og : Nat) (H : List ByteArray) (Ps : List (Option Nat)) : Prop where
  len : Ps.length = H.length
  base : B ≤ og
  row : OwnV w og (Ps.map ptr)
  who : ∀ i, i < H.length → (Ps.getD i none = none ∧ H.getD i default = nob) ∨ ∃ h, Ps.getD i none = some h ∧ OwnV w h [.string (H.getD i default)] ∧ B ≤ h ∧ h ≠ og ∧ H.getD i default ≠ nob
section
variable {B : Nat} {w w' : World} {og : Nat} {H : List ByteArray} {Ps : List (Option Nat)}
theorem Orig.kept {T : Nat → Prop} (h : Orig B w og H Ps) (hk : Kept T w w') (hT : ∀ k, B ≤ k → k < w.heap.size → ¬ T k) : Orig B w' og H Ps :=
  ⟨h.len, h.base, h.row.kept hk (hT og h.base h.row.lt), fun i hi => (h.who i hi).imp id fun ⟨g, e, ho, hb, r⟩ => ⟨g, e, ho.kept hk (hT g hb ho.lt), hb, r⟩⟩
theorem Orig.step (h : Orig B w og H Ps) (hb : Below w.heap.size w w') : Orig B w' og H Ps := h.kept (T := fun _ => False) (kept_of_below hb) (fun _ _ _ h => h)
theorem Orig.far {pg j : Nat} {u : Value} (h : Orig B w og H Ps) (ho : pg ≠ og) (hp : ∀ i, i < H.length → Ps.getD i none ≠ some pg) : Orig B (w.setCell ⟨pg, j, none⟩ u) og H Ps :=
  ⟨h.len, h.base, farN h.row (fun e => ho e.symm) _ _, fun i hi => (h.who i hi).imp id fun ⟨g, e, hg, hb, r⟩ => ⟨g, e, farN hg (fun e' => hp i hi (by rw [e, e'])) _ _, hb, r⟩⟩
theorem Orig.cell (h : Orig B w og H Ps) {i : Nat} (hi : i < H.length) : w.cell? ⟨og, i, none⟩ = some (ptr (Ps.getD i none)) := by
  have hp : i < Ps.length := by rw [h.len]; exact hi
  refine h.row.cell ?_
  rw [List.getElem?_map, List.getElem?_eq_getElem hp, getD_lt hp]
  rfl
theorem Orig.set (h : Orig B w og H Ps) {i : Nat} (hi : i < H.length) {s : ByteArray} (hs : s ≠ nob) (t : TypeId) (hB : B ≤ w.heap.size) :
    Orig B ((w.alloc (.cells #[.string s] t)).setCell ⟨og, i, none⟩ (.pointer (some ⟨w.heap.size, 0, none⟩))) og (H.set i s) (Ps.set i (some w.heap.size)) := by
  have hlt := h.row.lt
  have A := Below.alloc1 w (.cells #[.string s] t)
  have hn : OwnV (w.alloc (.cells #[.string s] t)) w.heap.size [.string s] := ownV_alloc w #[.string s] t
  refine ⟨by rw [List.length_set, List.length_set, h.len], h.base, ?_, fun j hj => ?_⟩
  · have := (h.row.step A).set i (ptr (some w.heap.size)) (by rw [List.length_map, h.len]; exact hi)
    rw [← List.map_set] at this
    exact this
  · rw [List.length_set] at hj
    by_cases e : i = j
    · subst e
      refine Or.inr ⟨w.heap.size, by simp [List.getD, h.len, hi], ?_, hB, by omega, ?_⟩
      · rw [show (H.set i s).getD i default = s by simp [List.getD, hi]]
        exact farN hn (by omega) _ _
      · rw [show (H.set i s).getD i default = s by simp [List.getD, hi]]
        exact hs
    · have e1 : (H.set i s).getD j default = H.getD j default := by simp [List.getD, List.getElem?_set_ne e]
      have e2 : (Ps.set i (some w.heap.size)).getD j none = Ps.getD j none := by simp [List.getD, List.getElem?_set_ne e]
      rw [e1, e2]
      refine (h.who j hj).imp id fun ⟨g, eg, ho, hb, hno, hne⟩ => ⟨g, eg, farN (ho.step A) hno _ _, hb, hno, hne⟩
end
/-- The originals behind k rounds: the rest is nobody's. -/
def upTo (H : List ByteArray) (k : Nat) : List ByteArray := H.take k ++ List.replicate (H.length - k) nob
theorem upTo_len (H : List ByteArray) {k : Nat} (hk : k ≤ H.length) : (upTo H k).length = H.length := by simp [upTo]; omega
theorem upTo_all (H : List ByteArray) : upTo H H.length = H := by simp [upTo]
theorem upTo_zero (H : List ByteArray) : upTo H 0 = List.replicate H.length nob := by simp [upTo]
theorem upTo_set (H : List ByteArray) {k : Nat} (hk : k < H.length) : (upTo H k).set k (H.getD k default) = upTo H (k + 1) := by
  have hl : (H.take k).length = k := by rw [List.length_take]; omega
  unfold upTo
  rw [List.set_append_right _ _ (by omega), hl, Nat.sub_self, List.take_add_one, List.getElem?_eq_getElem hk, getD_lt hk, List.append_assoc]
  congr 1
  rw [show H.length - k = (H.length - (k + 1)) + 1 by omega, List.replicate_succ]
  rfl
theorem upTo_none (H : List ByteArray) {k : Nat} (hk : k < H.length) (h : H.getD k default = nob) : upTo H k = upTo H (k + 1) := by
  rw [← upTo_set H hk, h]
  have hl : (H.take k).length = k := by rw [List.length_take]; omega
  unfold upTo
  rw [List.set_append_right _ _ (by omega), hl, Nat.sub_self, show H.length - k = (H.length - (k + 1)) + 1 by omega, List.replicate_succ]
  rfl
theorem orig_new {w : World} (B n : Nat) (hB : B ≤ w.heap.size) (t : TypeId) : Orig B (w.alloc (.cells (madeCells #[.pointer none] n) t)) w.heap.size (List.replicate n nob) (List.replicate n none) := by
  refine ⟨by simp, hB, ?_, fun i hi => Or.inl ?_⟩
  · have := ownV_alloc w (madeCells #[.pointer none] n) t
    rwa [show (madeCells #[.pointer none] n).toList = (List.replicate n none).map ptr from ?_] at this
    apply List.ext_getElem?
    intro i
    by_cases hi : i < n
    · simp [madeCells, ptr, hi, Nat.mod_one]
    · rw [List.getElem?_eq_none (by simp [madeCells]; omega), List.getElem?_eq_none (by simp; omega)]
  · simp at hi
    simp [List.getD, hi]

theorem Try.infoPtr : (Try.prog.info? 105).map (fun i => (i.zero, i.size, i.bytes)) = some (some (.pointer none), 1, 8) := by kernel_rfl
theorem Try.eqgHol : Try.prog.eqGuardType Try.prog.depth 107 = false := by kernel_rfl
theorem Try.heldHol : Try.prog.stoodInHeld 107 = false := by kernel_rfl
theorem eql_hol (s t : ByteArray) (w : World) : (binOp .eql 107 (.agg #[.string s]) (.agg #[.string t])).run Try.prog w = .ok (.bool (decide (s = t))) w := by
  rw [run_eql_struct, run_equalIn_agg _ _ _ _ _ (by rw [Program.fieldsOf, Try.underlying107]) Try.heldHol]
  simp [go_sem, Program.fieldsOf, Try.underlying107, Try.underlying9, text_eq]
  by_cases e : s = t <;> simp [e]

set_option maxHeartbeats 800000 in
theorem isHolder_any (B : Nat) (og : Nat) (H : List ByteArray) (Ps : List (Option Nat)) (i : Nat) (who : ByteArray) (w : World) (h : Orig B w og H Ps) (hi : i < H.length) (hw : who ≠ nob) :
    Calls Try.prog 111 #[ptr (Ps.getD i none), .string who] w fun e w' => e = .returned (.bool (decide (H.getD i default = who))) ∧ w' = w := by
  rcases h.who i hi with ⟨e1, e2⟩ | ⟨g, e1, ho, _, _, _⟩
  · rw [e1, e2, decide_eq_false (fun e => hw e.symm)]
    unfold ptr
    go_enter Try.func111, Try.ntmps111
    go_wp2
    go_ret
    exact ⟨rfl, rfl⟩
  · rw [e1]
    have c0 := ho.cell (i := 0) rfl
    generalize H.getD i default = s at *
    have hEq := eql_hol s who
    have hGd := fun x y w => run_eqGuard_agg (P := Try.prog) w .eql 107 x y #[.string s] #[.string who] Try.eqgHol
    unfold ptr
    go_enter Try.func111, Try.ntmps111
    go_wp2
    go_ret
    exact ⟨rfl, rfl⟩

/-- A paper: its box, the order, who holds the originals; all its blocks from B on. -/
def Pap (B : Nat) (w : World) (pg : Nat) (od : ByteArray) (H : List ByteArray) : Prop :=
  ∃ og Ps, OwnV w pg [.string od, .slice (some ⟨og, 0, none⟩) H.length H.length] ∧ B ≤ pg ∧ pg ≠ og ∧ Orig B w og H Ps ∧ ∀ i, i < H.length → Ps.getD i none ≠ some pg
theorem Pap.kept {T : Nat → Prop} {B : Nat} {w w' : World} {pg : Nat} {od : ByteArray} {H : List ByteArray} (h : Pap B w pg od H) (hk : Kept T w w') (hT : ∀ k, B ≤ k → k < w.heap.size → ¬ T k) : Pap B w' pg od H := by
  obtain ⟨og, Ps, h1, h2, h3, h4, h5⟩ := h
  exact ⟨og, Ps, h1.kept hk (hT pg h2 h1.lt), h2, h3, h4.kept hk hT, h5⟩
theorem Pap.step {B : Nat} {w w' : World} {pg : Nat} {od : ByteArray} {H : List ByteArray} (h : Pap B w pg od H) (hb : Below w.heap.size w w') : Pap B w' pg od H := h.kept (T := fun _ => False) (kept_of_below hb) (fun _ _ _ h => h)

set_option maxRecDepth 10000 in
set_option maxHeartbeats 1600000 in
theorem originalsFor_any (who : ByteArray) (n : Nat) (w : World) (hw : who ≠ nob) (hn : n ≤ 1048576) :
    Calls Try.prog 85 #[.string who, .int .i64 n] w fun e w' => ∃ og Ps, e = .returned (.slice (some ⟨og, 0, none⟩) n n) ∧ Orig w.heap.size w' og (List.replicate n who) Ps ∧ Below w.heap.size w w' := by
  have hmk := run_make_recs (P := Try.prog) 104 105 _ 1 8 Try.underlying104 Try.infoPtr .i64 .i64 n (by omega) (by omega)
  rw [Nat.mul_one] at hmk
  have HN := hide (orig_new (w := w) w.heap.size n (Nat.le_refl _) 105)
  have HW0 := hide (Below.alloc1 w (.cells (madeCells #[.pointer none] n) 105))
  go_enter Try.func85, Try.ntmps85
  go_wp2
  clear hmk
  have HU : Hid ((List.replicate n who).length = n) := by show _ = _; simp
  go_loopg [11] n (fun g iv wr => ∃ (k : Nat) (Ps : List (Option Nat)), k ≤ n ∧ g = n - k ∧ iv = .int .i64 k ∧ Hid (Below w.heap.size w wr) ∧ Hid (Orig w.heap.size wr w.heap.size (upTo (List.replicate n who) k) Ps))
  case atStart => exact ⟨0, _, Nat.zero_le _, rfl, rfl, HW0, by rw [upTo_zero, unhide HU]; exact HN⟩
  case round =>
    clear HN HW0
    obtain ⟨k, Ps, hk, rfl, rfl, HW, HO⟩ := hrel
    by_cases hkn : k < n
    · have hki : (k : Int) < n := by omega
      have hk' : k < (List.replicate n who).length := by rw [unhide HU]; exact hkn
      have hl : k < (upTo (List.replicate n who) k).length := by rw [upTo_len _ (by omega)]; exact hk'
      have hs := (unhide HO).set hl hw 107 (unhide HW).size
      have e1 : (upTo (List.replicate n who) k).set k who = upTo (List.replicate n who) (k + 1) := by
        rw [← upTo_set _ hk']
        congr 1
        simp [List.getD, hkn]
      rw [e1] at hs
      have HS := hide hs
      have hcell := (unhide HO).cell hl
      have A := Below.alloc1 wr (.cells #[.string who] 107)
      have hc1 := wcell3 hcell A
      have hf := ((unhide HO).row.step A).frozen
      have HW1 := hide ((Below.step (unhide HW) A).setCell (p := ⟨w.heap.size, k, none⟩) (Nat.le_refl _) (.pointer (some ⟨wr.heap.size, 0, none⟩)))
      generalize ptr (Ps.getD k none) = z at *
      clear hs hcell A HO e1 hl hk'
      go_wp2
      go_roundg (n - (k + 1))
      case measure => omega
      case rel => exact ⟨k + 1, _, by omega, rfl, by go_num, HW1, HS⟩
    · have hkk : k = n := by omega
      subst hkk
      go_wp2
      go_ret
      have h9 := unhide HO
      have e9 := upTo_all (List.replicate k who)
      rw [unhide HU] at e9
      rw [e9] at h9
      exact ⟨_, Ps, rfl, h9, unhide HW⟩

set_option maxRecDepth 10000 in
set_option maxHeartbeats 1600000 in
theorem paperOf_any (xi : Int) (sh od : ByteArray) (mn : Int) (na : Option Addr) (m nc : Nat) (H : List ByteArray) (w : World) (hN : SIn w (.slice na m nc) H) (hn : m ≤ 1048576) :
    Calls Try.prog 47 #[vBill xi sh od mn (.slice na m nc)] w fun e w' => ∃ pg, e = .returned (.pointer (some ⟨pg, 0, none⟩)) ∧ Pap w.heap.size w' pg od H ∧ Below w.heap.size w w' := by
  obtain ⟨hm, hc1, hc2⟩ := hN.slice_len
  unfold maxLen at hc2
  have A := Below.alloc1 w (.cells #[.int .i64 xi, .string sh, .string od, .int .i64 mn, .slice na m nc] 40)
  have HC := hide hN.cells
  have HX := hide (ownV_alloc w #[.int .i64 xi, .string sh, .string od, .int .i64 mn, .slice na m nc] 40)
  have HW := hide A
  have HMH := hide hm
  clear A hN hm
  unfold vBill
  go_enter Try.func47, Try.ntmps47
  go_upto_region 1 with (fail)
  obtain ⟨V1, eV⟩ : ∃ z, z = w.alloc (.cells #[.int .i64 xi, .string sh, .string od, .int .i64 mn, .slice na m nc] 40) := ⟨_, rfl⟩
  rw [← eV] at HW HX ⊢
  clear eV
  obtain ⟨gx, egx⟩ : ∃ g, g = w.heap.size := ⟨_, rfl⟩
  rw [← egx] at HX ⊢
  have hmk := run_make_recs (P := Try.prog) 104 105 _ 1 8 Try.underlying104 Try.infoPtr .i64 .i64 m (by omega) (by omega)
  rw [Nat.mul_one] at hmk
  have A2 := Below.alloc1 V1 (.cells (madeCells #[.pointer none] m) 105)
  have HN := hide (orig_new (w := V1) w.heap.size m (unhide HW).size 105)
  have d4 := (unhide HX).cell (i := 4) rfl
  have HW2 := hide (Below.step (unhide HW) A2)
  have HX2 := hide ((unhide HX).step A2)
  have hVs := (unhide HW).size
  obtain ⟨V2, eV2⟩ : ∃ z, z = V1.alloc (.cells (madeCells #[.pointer none] m) 105) := ⟨_, rfl⟩
  rw [← eV2] at HN HW2 HX2
  obtain ⟨og, eog⟩ : ∃ z, z = V1.heap.size := ⟨_, rfl⟩
  have hgo : gx ≠ og := by have := (unhide HX).lt; omega
  rw [← eog] at HN
  have hgx : w.heap.size ≤ gx := by omega
  clear A2 HX HW egx
  go_upto_region 2 with (fail)
  rw [← eV2, ← eog]
  have hog : w.heap.size ≤ og := by omega
  clear eV2 hmk d4 eog
  have d4 := (unhide HX2).cell (i := 4) rfl
  go_wp2
  go_loopg [13] m (fun g iv wr => ∃ (k : Nat) (Ps : List (Option Nat)), k ≤ m ∧ g = m - k ∧ iv = .int .i64 k ∧ Hid (Kept (fun b => b = og) V2 wr) ∧ Hid (Orig w.heap.size wr og (upTo H k) Ps))
  case atStart => exact ⟨0, _, Nat.zero_le _, rfl, rfl, Kept.refl _ _, by rw [upTo_zero, unhide HMH]; exact HN⟩
  case round =>
    clear HN d4
    obtain ⟨k, Ps, hk, rfl, rfl, HK, HO⟩ := hrel
    have HWr := hide ((unhide HW2).trans ((unhide HK).below (B := w.heap.size) (unhide HW2).size (fun b e => by omega)))
    have HXr := hide ((unhide HX2).kept (unhide HK) hgo)
    by_cases hkn : k < m
    · have hki : (k : Int) < m := by omega
      have hk' : k < H.length := by rw [unhide HMH]; exact hkn
      have hl : k < (upTo H k).length := by rw [upTo_len _ (by omega)]; exact hk'
      obtain ⟨b, o, rfl, hc⟩ := unhide HC k hk'
      have g0 := wcell3 hc (unhide HWr)
      have hnl := no_list (H.getD k default)
      cases hno : noB (H.getD k default) with
      | true =>
        have e1 : H.getD k default = nob := by simpa [noB] using hno
        have HE := hide (upTo_none H hk' e1)
        rw [hno] at hnl
        generalize H.getD k default = s at *
        clear hc e1 hno hl hk'
        go_wp2
        go_roundg (m - (k + 1))
        case measure => omega
        case rel => exact ⟨k + 1, _, by omega, rfl, by go_num, HK, by rw [← unhide HE]; exact HO⟩
      | false =>
        have e1 : H.getD k default ≠ nob := by simpa [noB] using hno
        have hs := (unhide HO).set hl e1 107 (unhide HWr).size
        rw [upTo_set H hk'] at hs
        have HS := hide hs
        have hcell := (unhide HO).cell hl
        have A := Below.alloc1 wr (.cells #[.string (H.getD k default)] 107)
        have hc1 := wcell3 hcell A
        have hf := ((unhide HO).row.step A).frozen
        have HK1 := hide (((unhide HK).trans (kept_of_below A)).setCell (p := ⟨og, k, none⟩) rfl (.pointer (some ⟨wr.heap.size, 0, none⟩)))
        rw [hno] at hnl
        generalize H.getD k default = s at *
        generalize ptr (Ps.getD k none) = z at *
        clear hs hcell A HO e1 hl hk' hc hno HK
        go_wp2
        go_roundg (m - (k + 1))
        case measure => omega
        case rel => exact ⟨k + 1, _, by omega, rfl, by go_num, HK1, HS⟩
    · have hkk : k = m := by omega
      subst hkk
      have h9 := unhide HO
      have e9 := upTo_all H
      rw [unhide HMH] at e9
      rw [e9] at h9
      have d2 := (unhide HXr).cell (i := 2) rfl
      have A := Below.alloc1 wr (.cells #[.string od, .slice (some ⟨og, 0, none⟩) k k] 109)
      have HP := hide (ownV_alloc wr #[.string od, .slice (some ⟨og, 0, none⟩) k k] 109)
      have HA := hide A
      have HO9 := hide (h9.step A)
      have HLT := hide h9.row.lt
      have HLI : Hid (∀ i, i < H.length → Ps.getD i none ≠ some wr.heap.size) := fun i hi e => by
        rcases h9.who i hi with ⟨e1, _⟩ | ⟨g, e1, ho, _⟩
        · rw [e1] at e; cases e
        · rw [e1] at e
          have := ho.lt
          simp only [Option.some.injEq] at e
          omega
      clear A h9 e9 HK HO
      go_wp2
      go_ret
      have hsz := (unhide HWr).size
      refine ⟨wr.heap.size, rfl, ⟨og, Ps, by rw [unhide HMH]; exact unhide HP, hsz, by have := unhide HLT; omega, unhide HO9, unhide HLI⟩, Below.step (unhide HWr) (unhide HA)⟩

/-- Who may ask for the goods. -/
def titOf (od : ByteArray) (H : List ByteArray) : ByteArray := if noB od then (H.find? (fun s => !noB s)).getD nob else od
theorem find_at {H : List ByteArray} : ∀ {k : Nat}, k < H.length → (∀ t, t < k → H.getD t default = nob) → H.getD k default ≠ nob → H.find? (fun s => !noB s) = some (H.getD k default) := by
  induction H with
  | nil => intro k hk; simp at hk
  | cons x H ih =>
    intro k hk h1 h2
    cases k with
    | zero =>
      have : noB x = false := by simpa [noB, List.getD] using h2
      simp [this, List.getD]
    | succ k =>
      have h0 : x = nob := by simpa [List.getD] using h1 0 (by omega)
      have : noB x = true := by simp [noB, h0]
      have h3 := ih (k := k) (by simpa using hk) (fun t ht => by simpa [List.getD] using h1 (t + 1) (by omega)) (by simpa [List.getD] using h2)
      rw [List.find?_cons, this]
      simp only [Bool.not_true]
      rw [h3]
      simp [List.getD]
theorem find_no {H : List ByteArray} (h : ∀ t, t < H.length → H.getD t default = nob) : H.find? (fun s => !noB s) = none := by
  rw [List.find?_eq_none]
  intro x hx
  obtain ⟨i, hi, rfl⟩ := List.mem_iff_getElem.1 hx
  have := h i hi
  rw [getD_lt hi] at this
  simp [noB, this]

set_option maxRecDepth 10000 in
set_option maxHeartbeats 1600000 in
theorem title_any (B : Nat) (pg : Nat) (od : ByteArray) (H : List ByteArray) (w : World) (h : Pap B w pg od H) (hn : H.length ≤ 1048576) :
    Calls Try.prog 48 #[.pointer (some ⟨pg, 0, none⟩)] w fun e w' => e = .returned (.string (titOf od H)) ∧ w' = w := by
  obtain ⟨og, Ps, h1, h2, h3, h4, h5⟩ := h
  have c0 := h1.cell (i := 0) rfl
  have c1 := h1.cell (i := 1) rfl
  have HO := hide h4
  have e0 := no_list od
  clear h1 h4 h5
  cases hno : noB od with
  | false =>
    have HT : Hid (titOf od H = od) := by show _ = _; simp [titOf, hno]
    rw [hno] at e0
    clear hno
    go_enter Try.func48, Try.ntmps48
    go_wp2
    go_ret
    exact ⟨by rw [unhide HT]; rfl, rfl⟩
  | true =>
    have HT : Hid (titOf od H = (H.find? (fun s => !noB s)).getD nob) := by show _ = _; simp [titOf, hno]
    rw [hno] at e0
    generalize titOf od H = Z at *
    clear hno
    have HFA := hide fun k hk h1 h2 => find_at (H := H) (k := k) hk h1 h2
    have HFN := hide fun h => find_no (H := H) h
    obtain ⟨n, en⟩ : ∃ n, n = H.length := ⟨_, rfl⟩
    rw [← en] at c1 hn HFN
    have EN := hide en
    clear en
    go_enter Try.func48, Try.ntmps48
    go_wp2
    go_loopg [19] n (fun g iv wr => wr = w ∧ ∃ k : Nat, k ≤ n ∧ g = n - k ∧ iv = .int .i64 k ∧ Hid (∀ t, t < k → H.getD t default = nob))
    case atStart => exact ⟨rfl, 0, Nat.zero_le _, rfl, rfl, fun t ht => by omega⟩
    case round =>
      obtain ⟨rfl, k, hk, rfl, rfl, HD⟩ := hrel
      by_cases hkn : k < n
      · have hki : (k : Int) < n := by omega
        have hk' : k < H.length := by rw [← unhide EN]; exact hkn
        have hcell := (unhide HO).cell hk'
        rcases (unhide HO).who k hk' with ⟨e1, e2⟩ | ⟨g, e1, ho, _, _, e2⟩
        · have HD' : Hid (∀ t, t < k + 1 → H.getD t default = nob) := fun t ht => by
            by_cases e : t = k
            · rw [e]; exact e2
            · exact unhide HD t (by omega)
          rw [e1] at hcell
          unfold ptr at hcell
          clear e1 e2 HD hk'
          go_wp2
          go_roundg (n - (k + 1))
          case measure => omega
          case rel => exact ⟨rfl, k + 1, by omega, rfl, by go_num, HD'⟩
        · have HZ : Hid (Z = H.getD k default) := by show _ = _; rw [unhide HT, unhide HFA k hk' (unhide HD) e2]; rfl
          have hc := ho.cell (i := 0) rfl
          rw [e1] at hcell
          unfold ptr at hcell
          generalize H.getD k default = s at *
          clear e1 e2 HD hk' ho
          go_wp2
          go_ret
          exact ⟨by rw [unhide HZ]; rfl, rfl⟩
      · have HZ : Hid (Z = nob) := by show _ = _; rw [unhide HT, unhide HFN (fun t ht => unhide HD t (by omega))]; rfl
        clear HD
        go_wp2
        go_ret
        exact ⟨by rw [unhide HZ]; rfl, rfl⟩

end Go.Proofs.Ytdcbonfhakdhhaa
