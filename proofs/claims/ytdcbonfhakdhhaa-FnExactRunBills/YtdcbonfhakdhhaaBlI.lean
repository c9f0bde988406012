/- Papers: contracts of the program's heldBy, mayEndorse, endorse, isHeld, hand, free, swap, do. -/
import Derived.Test.YtdcbonfhakdhhaaBlH
import Derived.Test.YtdcbonfhakdhhaaSetC
namespace Go.Proofs.Ytdcbonfhakdhhaa
open Go.RowKit

theorem cnt_snoc (H : List ByteArray) (who : ByteArray) {k : Nat} (hk : k < H.length) : cnt (H.take (k + 1)) who = cnt (H.take k) who + (if H.getD k default = who then 1 else 0) := by
  unfold cnt
  rw [List.take_add_one, List.getElem?_eq_getElem hk, List.countP_append, getD_lt hk]
  simp [List.countP_cons]
theorem cnt_le (H : List ByteArray) (who : ByteArray) : cnt H who ≤ H.length := List.countP_le_length
theorem cnt_take (H : List ByteArray) (who : ByteArray) (k : Nat) : cnt (H.take k) who ≤ k := Nat.le_trans (cnt_le _ _) (by rw [List.length_take]; omega)

set_option maxRecDepth 10000 in
set_option maxHeartbeats 1600000 in
theorem heldBy_any (B : Nat) (pg : Nat) (od : ByteArray) (H : List ByteArray) (who : ByteArray) (w : World) (h : Pap B w pg od H) (hw : who ≠ nob) (hn : H.length ≤ 1048576) :
    Calls Try.prog 107 #[.pointer (some ⟨pg, 0, none⟩), .string who] w fun e w' => e = .returned (.int .i64 (cnt H who : Nat)) ∧ w' = w := by
  obtain ⟨og, Ps, h1, h2, h3, h4, h5⟩ := h
  have c1 := h1.cell (i := 1) rfl
  have HO := hide h4
  have HIS := hide fun k hk => isHolder_any B og H Ps k who w h4 hk hw
  have HSN := hide fun k (hk : k < H.length) => cnt_snoc H who hk
  have HCT := hide fun k => cnt_take H who k
  clear h1 h4 h5
  obtain ⟨n, en⟩ : ∃ n, n = H.length := ⟨_, rfl⟩
  rw [← en] at c1 hn HSN HIS
  have EN := hide en
  clear en
  go_enter Try.func107, Try.ntmps107
  go_wp2
  go_loopg [5, 13] n (fun g cv iv wr => wr = w ∧ ∃ k : Nat, k ≤ n ∧ g = n - k ∧ iv = .int .i64 k ∧ cv = .int .i64 (cnt (H.take k) who : Nat))
  case atStart => exact ⟨rfl, 0, Nat.zero_le _, rfl, rfl, by simp [cnt]⟩
  case round =>
    obtain ⟨rfl, k, hk, rfl, rfl, rfl⟩ := hrel
    have hct := unhide HCT k
    by_cases hkn : k < n
    · have hki : (k : Int) < n := by omega
      have hk' : k < H.length := by rw [← unhide EN]; exact hkn
      have hcell := (unhide HO).cell hk'
      have QI := hide (unhide HIS k hkn)
      have hsn := unhide HSN k hkn
      generalize cnt (H.take k) who = c at *
      generalize ptr (Ps.getD k none) = p at *
      by_cases hx : H.getD k default = who
      · rw [if_pos hx] at hsn
        rw [decide_eq_true hx] at QI
        have HN := hide hsn
        clear hsn hx hk'
        go_wp2_with fail
        refine (unhide QI).mono ?_
        rintro e w1 ⟨rfl, h9⟩
        subst h9
        clear QI
        go_wp2
        go_roundg (n - (k + 1))
        case measure => omega
        case rel => exact ⟨rfl, k + 1, by omega, rfl, by go_num, by rw [unhide HN]; congr 1⟩
      · rw [if_neg hx] at hsn
        rw [decide_eq_false hx] at QI
        have HN := hide hsn
        clear hsn hx hk'
        go_wp2_with fail
        refine (unhide QI).mono ?_
        rintro e w1 ⟨rfl, h9⟩
        subst h9
        clear QI
        go_wp2
        go_roundg (n - (k + 1))
        case measure => omega
        case rel => exact ⟨rfl, k + 1, by omega, rfl, by go_num, by rw [unhide HN]; congr 1⟩
    · have hkk : k = n := by omega
      have HE : Hid (H.take k = H) := by show _ = _; rw [hkk, unhide EN, List.take_length]
      go_wp2
      go_ret
      exact ⟨by rw [unhide HE]; rfl, rfl⟩

def mayB (od : ByteArray) (H : List ByteArray) (who : ByteArray) : Bool := (noB od && decide (0 < cnt H who)) || (!noB od && decide (od = who))
set_option maxRecDepth 10000 in
set_option maxHeartbeats 1600000 in
theorem mayEndorse_any (B : Nat) (pg : Nat) (od : ByteArray) (H : List ByteArray) (who : ByteArray) (w : World) (h : Pap B w pg od H) (hw : who ≠ nob) (hn : H.length ≤ 1048576) :
    Calls Try.prog 105 #[.pointer (some ⟨pg, 0, none⟩), .string who] w fun e w' => e = .returned (.bool (mayB od H who)) ∧ w' = w := by
  have QH := hide (heldBy_any B pg od H who w h hw hn)
  have hle := cnt_le H who
  obtain ⟨og, Ps, h1, h2, h3, h4, h5⟩ := h
  have c0 := h1.cell (i := 0) rfl
  clear h1 h4 h5
  have e0 := no_list od
  have EM : Hid (mayB od H who = ((noB od && decide (0 < cnt H who)) || (!noB od && decide (od = who)))) := rfl
  have e1 := text_eq od who
  generalize cnt H who = c at *
  cases hno : noB od with
  | true =>
    rw [hno] at e0 EM
    have HE : Hid (mayB od H who = decide (0 < c)) := by show _ = _; rw [unhide EM]; simp
    go_enter Try.func105, Try.ntmps105
    go_wp2_with fail
    refine (unhide QH).mono ?_
    rintro e w1 ⟨rfl, rfl⟩
    go_wp2
    go_ret
    exact ⟨by rw [unhide HE]; simp, rfl⟩
  | false =>
    rw [hno] at e0 EM
    have HE : Hid (mayB od H who = decide (od = who)) := by show _ = _; rw [unhide EM]; simp
    clear QH EM
    go_enter Try.func105, Try.ntmps105
    go_wp2
    go_ret
    exact ⟨by rw [unhide HE]; first | rfl | simp [e1], rfl⟩

theorem Pap.order {B : Nat} {w : World} {pg : Nat} {od tt : ByteArray} {H : List ByteArray} (h : Pap B w pg od H) : Pap B (w.setCell ⟨pg, 0, none⟩ (.string tt)) pg tt H := by
  obtain ⟨og, Ps, h1, h2, h3, h4, h5⟩ := h
  exact ⟨og, Ps, h1.set 0 (.string tt) (by simp), h2, h3, h4.far h3 h5, h5⟩

set_option maxRecDepth 10000 in
set_option maxHeartbeats 1600000 in
theorem endorse_any (B : Nat) (pg : Nat) (od : ByteArray) (H : List ByteArray) (who tt : ByteArray) (w : World) (h : Pap B w pg od H) (hw : who ≠ nob) (hn : H.length ≤ 1048576) :
    Calls Try.prog 99 #[.pointer (some ⟨pg, 0, none⟩), .string who, .string tt] w fun e w' => e = .returned (.bool (mayB od H who)) ∧ Pap B w' pg (if mayB od H who then tt else od) H ∧ Kept (fun b => B ≤ b) w w' := by
  have QH := hide (mayEndorse_any B pg od H who w h hw hn)
  have HP := hide h
  obtain ⟨og, Ps, h1, h2, h3, h4, h5⟩ := h
  have c0 := h1.cell (i := 0) rfl
  have hf := h1.frozen
  clear h1 h4 h5
  generalize mayB od H who = z at *
  go_enter Try.func99, Try.ntmps99
  go_wp2_with fail
  refine (unhide QH).mono ?_
  rintro e w1 ⟨rfl, rfl⟩
  clear QH
  cases z with
  | false =>
    go_wp2
    go_ret
    exact ⟨rfl, unhide HP, Kept.refl _ _⟩
  | true =>
    go_wp2
    go_ret
    exact ⟨rfl, (unhide HP).order, (Kept.refl _ _).setCell (p := ⟨pg, 0, none⟩) h2 _⟩

set_option maxRecDepth 10000 in
set_option maxHeartbeats 1600000 in
theorem isHeld_any (B : Nat) (pg : Nat) (od : ByteArray) (H : List ByteArray) (num : Int) (who : ByteArray) (w : World) (h : Pap B w pg od H) (hw : who ≠ nob) (hn : H.length ≤ 1048576) :
    Calls Try.prog 106 #[.pointer (some ⟨pg, 0, none⟩), .int .i64 num, .string who] w fun e w' => e = .returned (.bool (hldB H num who)) ∧ w' = w := by
  obtain ⟨og, Ps, h1, h2, h3, h4, h5⟩ := h
  have c1 := h1.cell (i := 1) rfl
  have HO := hide h4
  have HIS := hide fun k hk => isHolder_any B og H Ps k who w h4 hk hw
  have QW := hide fun V => within_any num 0 ((H.length : Int) - 1) V
  have EH : Hid (hldB H num who = (decide (0 ≤ num ∧ num < H.length) && decide (H.getD num.toNat default = who))) := rfl
  clear h1 h4 h5
  obtain ⟨n, en⟩ : ∃ n, n = H.length := ⟨_, rfl⟩
  rw [← en] at c1 hn HIS QW EH
  have EN := hide en
  clear en
  have q1 : IntKind.i64.wrap ((n : Int) - 1) = (n : Int) - 1 := by rw [IntKind.wrap_i64]; omega
  by_cases hin : 0 ≤ num ∧ num < n
  · obtain ⟨k, rfl⟩ := Int.eq_ofNat_of_zero_le hin.1
    have hkn : k < n := by omega
    have hk' : k < H.length := by rw [← unhide EN]; exact hkn
    have hki : (k : Int) < n := by omega
    have hB : inB (k : Int) 0 ((n : Int) - 1) = true := inB_mk (by omega) (by omega)
    rw [hB] at QW
    have HE : Hid (hldB H (k : Int) who = decide (H.getD k default = who)) := by
      show _ = _
      rw [unhide EH, decide_eq_true hin, Bool.true_and, Int.toNat_natCast]
    have hcell := (unhide HO).cell hk'
    have QI := hide (unhide HIS k hkn)
    generalize ptr (Ps.getD k none) = p at *
    generalize decide (H.getD k default = who) = z at *
    clear hin hB EH hk'
    go_enter Try.func106, Try.ntmps106
    go_wp2_with fail
    refine (unhide QW _).mono ?_
    rintro e w1 ⟨rfl, rfl⟩
    clear QW
    go_wp2_with fail
    refine (unhide QI).mono ?_
    rintro e w2 ⟨rfl, rfl⟩
    go_wp2
    go_ret
    exact ⟨by rw [unhide HE]; rfl, rfl⟩
  · have hB : inB num 0 ((n : Int) - 1) = false := by
      by_cases h0 : 0 ≤ num
      · exact inB_not (by omega)
      · exact inB_not (by omega)
    rw [hB] at QW
    have HE : Hid (hldB H num who = false) := by
      show _ = _
      rw [unhide EH, decide_eq_false hin, Bool.false_and]
    clear hin hB EH HIS
    go_enter Try.func106, Try.ntmps106
    go_wp2_with fail
    refine (unhide QW _).mono ?_
    rintro e w1 ⟨rfl, rfl⟩
    clear QW
    go_wp2
    go_ret
    exact ⟨by rw [unhide HE]; rfl, rfl⟩

theorem Pap.hand {B : Nat} {w : World} {pg : Nat} {od : ByteArray} {H : List ByteArray} {og : Nat} {Ps : List (Option Nat)} {i : Nat} {s : ByteArray} (h1 : OwnV w pg [.string od, .slice (some ⟨og, 0, none⟩) H.length H.length]) (h2 : B ≤ pg) (h3 : pg ≠ og) (h4 : Orig B w og H Ps) (h5 : ∀ i, i < H.length → Ps.getD i none ≠ some pg) (hi : i < H.length) (hs : s ≠ nob) (t : TypeId) (hB : B ≤ w.heap.size) :
    Pap B ((w.alloc (.cells #[.string s] t)).setCell ⟨og, i, none⟩ (.pointer (some ⟨w.heap.size, 0, none⟩))) pg od (H.set i s) := by
  have A := Below.alloc1 w (.cells #[.string s] t)
  refine ⟨og, Ps.set i (some w.heap.size), ?_, h2, h3, h4.set hi hs t hB, fun j hj e => ?_⟩
  · rw [List.length_set]
    exact farN (h1.step A) h3 _ _
  · rw [List.length_set] at hj
    by_cases ej : i = j
    · subst ej
      have hp : i < Ps.length := by rw [h4.len]; exact hi
      simp [List.getD, hp] at e
      have := h1.lt
      omega
    · refine h5 j hj ?_
      rwa [show (Ps.set i (some w.heap.size)).getD j none = Ps.getD j none by simp [List.getD, List.getElem?_set_ne ej]] at e

set_option maxRecDepth 10000 in
set_option maxHeartbeats 1600000 in
theorem hand_any (B : Nat) (pg : Nat) (od : ByteArray) (H : List ByteArray) (num : Int) (who tt : ByteArray) (w : World) (h : Pap B w pg od H) (hw : who ≠ nob) (ht : tt ≠ nob) (hn : H.length ≤ 1048576) (hB : B ≤ w.heap.size) :
    Calls Try.prog 100 #[.pointer (some ⟨pg, 0, none⟩), .int .i64 num, .string who, .string tt] w fun e w' => e = .returned (.bool (hldB H num who)) ∧ Pap B w' pg od (if hldB H num who then H.set num.toNat tt else H) ∧ Kept (fun b => B ≤ b) w w' := by
  have QH := hide (isHeld_any B pg od H num who w h hw hn)
  have HP := hide h
  obtain ⟨og, Ps, h1, h2, h3, h4, h5⟩ := h
  cases hz : hldB H num who with
  | false =>
    rw [hz] at QH
    clear h1 h4 h5 hz
    go_enter Try.func100, Try.ntmps100
    go_wp2_with fail
    refine (unhide QH).mono ?_
    rintro e w1 ⟨rfl, rfl⟩
    go_wp2
    go_ret
    exact ⟨rfl, unhide HP, Kept.refl _ _⟩
  | true =>
    rw [hz] at QH
    simp only [hldB, Bool.and_eq_true, decide_eq_true_eq] at hz
    obtain ⟨k, rfl⟩ := Int.eq_ofNat_of_zero_le hz.1.1
    have hk' : k < H.length := by omega
    have hki : (k : Int) < H.length := by omega
    have A := Below.alloc1 w (.cells #[.string tt] 107)
    have c1 := h1.cell (i := 1) rfl
    have hcell := wcell3 (h4.cell hk') A
    have hf := (h4.row.step A).frozen
    have HN := hide (Pap.hand h1 h2 h3 h4 h5 hk' ht 107 hB)
    have HK : Hid (Kept (fun b => B ≤ b) w ((w.alloc (.cells #[.string tt] 107)).setCell ⟨og, k, none⟩ (.pointer (some ⟨w.heap.size, 0, none⟩)))) := (kept_of_below A).setCell (p := ⟨og, k, none⟩) h4.base _
    have hgo : ¬ w.heap.size = og := by have := h4.row.lt; omega
    generalize ptr (Ps.getD k none) = p at *
    clear h1 h4 h5 hz A hk'
    obtain ⟨n, en⟩ : ∃ n, n = H.length := ⟨_, rfl⟩
    rw [← en] at c1 hki
    clear en
    go_enter Try.func100, Try.ntmps100
    go_wp2_with fail
    refine (unhide QH).mono ?_
    rintro e w1 ⟨rfl, rfl⟩
    clear QH
    go_wp2
    go_ret
    exact ⟨rfl, by simpa using unhide HN, unhide HK⟩

theorem Try.zeroPtr (w : World) : (zeroValue 105).run Try.prog w = .ok (.pointer none) w := by
  obtain ⟨i0, hi, hz⟩ := Option.map_eq_some_iff.1 Try.infoPtr
  simp only [Prod.mk.injEq] at hz
  simp [zeroValue, typeInfo, hi, hz.1]
theorem Pap.cleared {B : Nat} {w : World} {pg : Nat} {od : ByteArray} {H : List ByteArray} {og : Nat} {Ps : List (Option Nat)} (h1 : OwnV w pg [.string od, .slice (some ⟨og, 0, none⟩) H.length H.length]) (h2 : B ≤ pg) (h3 : pg ≠ og) (h4 : Orig B w og H Ps) :
    Pap B (w.setCells og 0 (List.replicate H.length (.pointer none))) pg od (List.replicate H.length nob) := by
  have hk := kept_setCells (g := og) (List.replicate H.length (.pointer none)) 0 w
  refine ⟨og, List.replicate H.length none, ?_, h2, h3, ⟨by simp, h4.base, ?_, fun i hi => ?_⟩, fun i hi => ?_⟩
  · rw [List.length_replicate]
    exact h1.kept hk h3
  · have := own_setCells (g := og) (List.replicate H.length (.pointer none)) 0 _ w h4.row (by simp [h4.len])
    simp only [List.take_zero, List.nil_append] at this
    rw [show (List.replicate H.length none).map ptr = List.replicate H.length (Value.pointer none) by simp [ptr]]
    exact this.pre
  · rw [List.length_replicate] at hi
    exact Or.inl (by simp [List.getD, hi])
  · rw [List.length_replicate] at hi
    simp [List.getD, hi]

def freeB (od : ByteArray) (H : List ByteArray) (num : Int) (who : ByteArray) : Bool := hldB H num who && (noB od || decide (od = who))
set_option maxRecDepth 10000 in
set_option maxHeartbeats 1600000 in
theorem free_any (B : Nat) (pg : Nat) (od : ByteArray) (H : List ByteArray) (num : Int) (who : ByteArray) (w : World) (h : Pap B w pg od H) (hw : who ≠ nob) (hn : H.length ≤ 1048576) :
    Calls Try.prog 101 #[.pointer (some ⟨pg, 0, none⟩), .int .i64 num, .string who] w fun e w' => e = .returned (.bool (freeB od H num who)) ∧ Pap B w' pg od (if freeB od H num who then List.replicate H.length nob else H) ∧ Kept (fun b => B ≤ b) w w' := by
  have QH := hide (isHeld_any B pg od H num who w h hw hn)
  have HP := hide h
  obtain ⟨og, Ps, h1, h2, h3, h4, h5⟩ := h
  have EF : Hid (freeB od H num who = (hldB H num who && (noB od || decide (od = who)))) := rfl
  have c0 := h1.cell (i := 0) rfl
  have c1 := h1.cell (i := 1) rfl
  have e0 := no_list od
  have e1 := text_eq od who
  have HN := hide (Pap.cleared h1 h2 h3 h4)
  have HK : Hid (Kept (fun b => B ≤ b) w (w.setCells og 0 (List.replicate H.length (.pointer none)))) := (kept_setCells (g := og) _ 0 w).mono fun b _ e => e ▸ h4.base
  cases hz : hldB H num who with
  | false =>
    rw [hz] at QH EF
    have hF : freeB od H num who = false := by rw [unhide EF]; rfl
    rw [hF]
    clear h1 h4 h5 hz
    go_enter Try.func101, Try.ntmps101
    go_wp2_with fail
    refine (unhide QH).mono ?_
    rintro e w1 ⟨rfl, rfl⟩
    go_wp2
    go_ret
    exact ⟨rfl, unhide HP, Kept.refl _ _⟩
  | true =>
    rw [hz] at QH EF
    simp only [hldB, Bool.and_eq_true, decide_eq_true_eq] at hz
    have hpos : 0 < H.length := by omega
    have hcl := fun ty => Lib.run_clear_slice (P := Try.prog) w 104 105 ty (.pointer none) Try.underlying104 Try.zeroPtr rfl rfl og 0 H.length H.length hpos
      (fun j hj => by rw [Nat.zero_add, h4.cell hj]; rfl) (fun j hj => by rw [Nat.zero_add]; exact h4.row.frozen j)
    clear h1 h4 h5 hz
    cases hno : noB od with
    | true =>
      rw [hno] at e0 EF
      have hF : freeB od H num who = true := by rw [unhide EF]; rfl
      rw [hF]
      go_enter Try.func101, Try.ntmps101
      go_wp2_with fail
      refine (unhide QH).mono ?_
      rintro e w1 ⟨rfl, rfl⟩
      clear QH
      go_wp2
      go_ret
      exact ⟨rfl, unhide HN, unhide HK⟩
    | false =>
      rw [hno] at e0 EF
      by_cases hod : od = who
      · have hF : freeB od H num who = true := by rw [unhide EF]; simp [hod]
        rw [hF]
        subst hod
        go_enter Try.func101, Try.ntmps101
        go_wp2_with fail
        refine (unhide QH).mono ?_
        rintro e w1 ⟨rfl, rfl⟩
        clear QH
        go_wp2
        go_ret
        exact ⟨rfl, unhide HN, unhide HK⟩
      · have hF : freeB od H num who = false := by rw [unhide EF]; simp [hod]
        rw [hF]
        rw [decide_eq_false hod] at e1
        have e2 : (od.toList != who.toList) = true := by simp only [bne, e1]; rfl
        go_enter Try.func101, Try.ntmps101
        go_wp2_with fail
        refine (unhide QH).mono ?_
        rintro e w1 ⟨rfl, rfl⟩
        clear QH hcl
        go_wp2
        go_ret
        exact ⟨rfl, unhide HP, Kept.refl _ _⟩

theorem Pap.swapped {B : Nat} {w : World} {pg : Nat} {od : ByteArray} {H H' : List ByteArray} {og' : Nat} {Ps' : List (Option Nat)} (h : Pap B w pg od H) (h4 : Orig B w og' H' Ps') (hb : pg < og') (hp : ∀ i, i < H'.length → Ps'.getD i none ≠ some pg) :
    Pap B (w.setCell ⟨pg, 1, none⟩ (.slice (some ⟨og', 0, none⟩) H'.length H'.length)) pg od H' := by
  obtain ⟨og, Ps, h1, h2, h3, _, _⟩ := h
  exact ⟨og', Ps', h1.set 1 _ (by simp), h2, by omega, h4.far (by omega) hp, hp⟩

set_option maxRecDepth 10000 in
set_option maxHeartbeats 1600000 in
theorem swap_any (B : Nat) (pg : Nat) (od : ByteArray) (H : List ByteArray) (who : ByteArray) (many : Nat) (w : World) (h : Pap B w pg od H) (hw : who ≠ nob) (hn : H.length ≤ 1048576) (hm : many ≤ 1048576) (hB : B ≤ w.heap.size) :
    Calls Try.prog 102 #[.pointer (some ⟨pg, 0, none⟩), .string who, .int .i64 many] w fun e w' => e = .returned (.bool (decide (cnt H who = H.length))) ∧ Pap B w' pg od (if cnt H who = H.length then List.replicate many who else H) ∧ Kept (fun b => B ≤ b) w w' := by
  have QH := hide fun V hV => heldBy_any B pg od H who V hV hw hn
  have hle := cnt_le H who
  have HP := hide h
  obtain ⟨og, Ps, h1, h2, h3, h4, h5⟩ := h
  have c1 := h1.cell (i := 1) rfl
  have hf := h1.frozen
  have hlt := h1.lt
  have HH1 := hide h1
  clear h1 h4 h5
  have Q1 := hide fun V => unhide QH (w.drewN V) ((unhide HP).step (below_drewN (Below.refl _ _) V))
  clear QH
  obtain ⟨n, en⟩ : ∃ n, n = H.length := ⟨_, rfl⟩
  by_cases hc : cnt H who = H.length
  · rw [decide_eq_true hc, if_pos hc]
    rw [hc] at Q1
    rw [← en] at c1 Q1
    have QO := hide fun V => originalsFor_any who many V hw hm
    have d1 : ((n : Int) != (n : Int)) = false := by simp
    clear hc hle en
    go_enter Try.func102, Try.ntmps102
    go_upto_region 1 with (fail)
    refine wp_region_quiet_lit (by kernel_rfl) (by kernel_rfl) ?_
    repeat (go_big_quiet_step (fail))
    go_big_quiet_want
    go_big_quiet_op
    go_big_quiet_call (exact Calls.quiet_of_same (unhide Q1 _))
    repeat (go_big_quiet_step (fail))
    refine wpQuiet_nil ?_
    intro _ hw'
    obtain ⟨nq, hw''⟩ := hw'
    subst hw''
    have HD := hide (below_drewN (Below.refl w.heap.size w) nq)
    go_wp2_with fail
    refine (unhide QO _).mono ?_
    rintro e w1 ⟨og', Ps', rfl, hO, hb⟩
    have hb' := Below.step (unhide HD) hb
    have HPN := (unhide HP).step hb'
    have hO' : Orig B w1 og' (List.replicate many who) Ps' := ⟨hO.len, Nat.le_trans hB hO.base, hO.row, fun i hi => (hO.who i hi).imp id fun ⟨g, e, ho, hbb, r⟩ => ⟨g, e, ho, Nat.le_trans hB hbb, r⟩⟩
    have hpg : pg < og' := Nat.lt_of_lt_of_le hlt hO.base
    have HF := hide (HPN.swapped hO' hpg (fun i hi e => by
      rcases hO.who i hi with ⟨e1, _⟩ | ⟨g, e1, _, hbb, _⟩
      · rw [e1] at e; cases e
      · rw [e1] at e
        simp only [Option.some.injEq] at e
        have : w.heap.size ≤ g := hbb
        omega))
    have hO1 := (unhide HH1).step hb'
    have c1' := hO1.cell (i := 1) rfl
    have hf' := hO1.frozen
    have HK := hide ((kept_of_below (T := fun b => B ≤ b) hb').setCell (p := ⟨pg, 1, none⟩) h2 (.slice (some ⟨og', 0, none⟩) many many))
    rw [List.length_replicate] at HF
    clear hb hb' HPN hO hO' hO1 Q1 QO c1 hf hpg HD
    go_wp2
    go_ret
    exact ⟨rfl, unhide HF, unhide HK⟩
  · rw [decide_eq_false hc, if_neg hc]
    rw [← en] at c1
    have d1 : (((cnt H who : Nat) : Int) != (n : Int)) = true := by
      simp only [bne_iff_ne, ne_eq]
      omega
    generalize cnt H who = c at *
    clear hc en
    go_enter Try.func102, Try.ntmps102
    go_upto_region 1 with (fail)
    refine wp_region_quiet_lit (by kernel_rfl) (by kernel_rfl) ?_
    repeat (go_big_quiet_step (fail))
    go_big_quiet_want
    go_big_quiet_op
    go_big_quiet_call (exact Calls.quiet_of_same (unhide Q1 _))
    repeat (go_big_quiet_step (fail))
    refine wpQuiet_nil ?_
    intro _ hw'
    obtain ⟨nq, hw''⟩ := hw'
    subst hw''
    have hb := below_drewN (Below.refl w.heap.size w) nq
    have HF := hide ((unhide HP).step hb)
    have HK : Hid (Kept (fun b => B ≤ b) w (w.drewN nq)) := kept_of_below hb
    clear hb
    go_wp2
    go_ret
    exact ⟨rfl, unhide HF, unhide HK⟩

/-- What an op leaves of a bill's paper. -/
def DoAns (B : Nat) (pg : Nat) (x : BlT) (o : BillOpT) (w : World) (e : Ending) (w' : World) : Prop :=
  e = .returned (.bool (passV x o).isSome) ∧ Pap B w' pg ((passV x o).getD x).2.2.1 ((passV x o).getD x).2.2.2.2 ∧ Kept (fun b => B ≤ b) w w'

set_option maxRecDepth 10000 in
set_option maxHeartbeats 3200000 in
theorem do_any (B : Nat) (pg : Nat) (xi : Int) (sh od : ByteArray) (mn : Int) (H : List ByteArray) (kd id : Int) (who tt : ByteArray) (num many : Int) (w : World) (h : Pap B w pg od H) (ho : opB (kd, id, who, tt, num, many) = true) (h1 : kd ≠ 1) (hn : H.length ≤ 1048576) (hB : B ≤ w.heap.size) :
    Calls Try.prog 88 #[.pointer (some ⟨pg, 0, none⟩), vBillOp kd id who tt num many] w fun e w' => DoAns B pg (xi, sh, od, mn, H) (kd, id, who, tt, num, many) w e w' := by
  have hk := op_kind ho
  have hwn : nameB who = true := by
    simp only [opB, Bool.and_eq_true] at ho
    exact ho.1.2
  have hw : who ≠ nob := by
    have := name_some hwn
    simpa [noB] using this
  dsimp only at hk
  have A := Below.alloc1 w (.cells #[.int .i64 kd, .int .i64 id, .string who, .string tt, .int .i64 num, .int .i64 many] 34)
  have HA := hide A
  have HP := hide (h.step A)
  have hB' : B ≤ (w.alloc (.cells #[.int .i64 kd, .int .i64 id, .string who, .string tt, .int .i64 num, .int .i64 many] 34)).heap.size := Nat.le_trans hB A.size
  have EP : Hid (∀ e w', DoAns B pg (xi, sh, od, mn, H) (kd, id, who, tt, num, many) w e w' ↔ (e = .returned (.bool (passV (xi, sh, od, mn, H) (kd, id, who, tt, num, many)).isSome) ∧ Pap B w' pg ((passV (xi, sh, od, mn, H) (kd, id, who, tt, num, many)).getD (xi, sh, od, mn, H)).2.2.1 ((passV (xi, sh, od, mn, H) (kd, id, who, tt, num, many)).getD (xi, sh, od, mn, H)).2.2.2.2 ∧ Kept (fun b => B ≤ b) w w')) := fun e w' => Iff.rfl
  clear A h
  unfold vBillOp
  have hc : kd = 2 ∨ kd = 3 ∨ kd = 4 ∨ kd = 5 := by omega
  rcases hc with rfl | rfl | rfl | rfl
  · have EV : Hid (passV (xi, sh, od, mn, H) (2, id, who, tt, num, many) = if mayB od H who then some (xi, sh, tt, mn, H) else none) := rfl
    have Q := hide (endorse_any B pg od H who tt _ (unhide HP) hw hn)
    generalize mayB od H who = z at *
    go_enter Try.func88, Try.ntmps88
    go_wp2_with fail
    refine (unhide Q).mono ?_
    rintro e w1 ⟨rfl, hQ, hK⟩
    have HQ := hide hQ
    have HK := hide ((kept_of_below (T := fun b => B ≤ b) (unhide HA)).trans hK)
    clear Q hQ hK
    go_wp2
    go_ret
    refine (unhide EP _ _).2 ?_
    rw [unhide EV]
    cases z
    · exact ⟨rfl, unhide HQ, unhide HK⟩
    · exact ⟨rfl, unhide HQ, unhide HK⟩
  · have htn : tt ≠ nob := by
      have h9 : nameB tt = true := by
        simp only [opB, Bool.and_eq_true] at ho
        exact ho.2
      have := name_some h9
      simpa [noB] using this
    have EV : Hid (passV (xi, sh, od, mn, H) (3, id, who, tt, num, many) = if hldB H num who then some (xi, sh, od, mn, H.set num.toNat tt) else none) := rfl
    have Q := hide (hand_any B pg od H num who tt _ (unhide HP) hw htn hn hB')
    generalize hldB H num who = z at *
    go_enter Try.func88, Try.ntmps88
    go_wp2_with fail
    refine (unhide Q).mono ?_
    rintro e w1 ⟨rfl, hQ, hK⟩
    have HQ := hide hQ
    have HK := hide ((kept_of_below (T := fun b => B ≤ b) (unhide HA)).trans hK)
    clear Q hQ hK
    go_wp2
    go_ret
    refine (unhide EP _ _).2 ?_
    rw [unhide EV]
    cases z
    · exact ⟨rfl, unhide HQ, unhide HK⟩
    · exact ⟨rfl, unhide HQ, unhide HK⟩
  · have EV : Hid (passV (xi, sh, od, mn, H) (4, id, who, tt, num, many) = if freeB od H num who then some (xi, sh, od, mn, List.replicate H.length nob) else none) := rfl
    have Q := hide (free_any B pg od H num who _ (unhide HP) hw hn)
    generalize freeB od H num who = z at *
    go_enter Try.func88, Try.ntmps88
    go_wp2_with fail
    refine (unhide Q).mono ?_
    rintro e w1 ⟨rfl, hQ, hK⟩
    have HQ := hide hQ
    have HK := hide ((kept_of_below (T := fun b => B ≤ b) (unhide HA)).trans hK)
    clear Q hQ hK
    go_wp2
    go_ret
    refine (unhide EP _ _).2 ?_
    rw [unhide EV]
    cases z
    · exact ⟨rfl, unhide HQ, unhide HK⟩
    · exact ⟨rfl, unhide HQ, unhide HK⟩
  · have hmm := op_many ho (Or.inr rfl)
    dsimp only at hmm
    obtain ⟨mN, rfl⟩ := Int.eq_ofNat_of_zero_le (show 0 ≤ many by omega)
    have EV : Hid (passV (xi, sh, od, mn, H) (5, id, who, tt, num, (mN : Int)) = if cnt H who = H.length then some (xi, sh, od, (mN : Int), List.replicate mN who) else none) := rfl
    have Q := hide (swap_any B pg od H who mN _ (unhide HP) hw hn (by omega) hB')
    go_enter Try.func88, Try.ntmps88
    go_wp2_with fail
    refine (unhide Q).mono ?_
    rintro e w1 ⟨rfl, hQ, hK⟩
    have HQ := hide hQ
    have HK := hide ((kept_of_below (T := fun b => B ≤ b) (unhide HA)).trans hK)
    clear Q hQ hK
    by_cases hc : cnt H who = H.length
    · have hd : decide (cnt H who = H.length) = true := decide_eq_true hc
      rw [hd]
      go_wp2
      go_ret
      refine (unhide EP _ _).2 ?_
      have h9 := unhide HQ
      rw [unhide EV, if_pos hc]
      rw [if_pos hc] at h9
      exact ⟨rfl, h9, unhide HK⟩
    · have hd : decide (cnt H who = H.length) = false := decide_eq_false hc
      rw [hd]
      go_wp2
      go_ret
      refine (unhide EP _ _).2 ?_
      have h9 := unhide HQ
      rw [unhide EV, if_neg hc]
      rw [if_neg hc] at h9
      exact ⟨rfl, h9, unhide HK⟩

end Go.Proofs.Ytdcbonfhakdhhaa
