/- Books in memory: words; contracts of the laws' own szBill, szBillS, szBook, toBill, toBillS, toBook. No statement about the program stands here. -/
import Derived.Test.YtdcbonfhakdhhaaBlM
import Derived.Test.YtdcbonfhakdhhaaOwnInts
import Derived.Test.YtdcbonfhakdhhaaRowK
namespace Go.Proofs.Ytdcbonfhakdhhaa
open Go.RowKit

theorem farN {W : World} {g g' : Nat} {vs : List Value} (h : OwnV W g vs) (hne : g ≠ g') (i : Nat) (u : Value) : OwnV (W.setCell ⟨g', i, none⟩ u) g vs := h.other (a := ⟨g', i, none⟩) hne u
/-- Three boxes of the call's own. -/
structure B3 (w W : World) (a b c : List Value) : Prop where
  o1 : OwnV W w.heap.size a
  o2 : OwnV W (w.heap.size + 1) b
  o3 : OwnV W (w.heap.size + 1 + 1) c
  below : Below w.heap.size w W
theorem B3.step {w W W' : World} {a b c : List Value} (h : B3 w W a b c) (hb : Below W.heap.size W W') : B3 w W' a b c := ⟨h.o1.step hb, h.o2.step hb, h.o3.step hb, Below.step h.below hb⟩
theorem B3.put3 {w W : World} {a b c : List Value} (h : B3 w W a b c) (i : Nat) (u : Value) (hi : i < c.length) : B3 w (W.setCell ⟨w.heap.size + 1 + 1, i, none⟩ u) a b (c.set i u) :=
  ⟨h.o1.other (a := ⟨w.heap.size + 1 + 1, i, none⟩) (by show w.heap.size ≠ w.heap.size + 1 + 1; omega) u, h.o2.other (a := ⟨w.heap.size + 1 + 1, i, none⟩) (by show w.heap.size + 1 ≠ w.heap.size + 1 + 1; omega) u, h.o3.set i u hi, h.below.setCell (p := ⟨w.heap.size + 1 + 1, i, none⟩) (by show w.heap.size ≤ w.heap.size + 1 + 1; omega) u⟩
theorem B3.put2 {w W : World} {a b c : List Value} (h : B3 w W a b c) (i : Nat) (u : Value) (hi : i < b.length) : B3 w (W.setCell ⟨w.heap.size + 1, i, none⟩ u) a (b.set i u) c :=
  ⟨h.o1.other (a := ⟨w.heap.size + 1, i, none⟩) (by show w.heap.size ≠ w.heap.size + 1; omega) u, h.o2.set i u hi, h.o3.other (a := ⟨w.heap.size + 1, i, none⟩) (by show w.heap.size + 1 + 1 ≠ w.heap.size + 1; omega) u, h.below.setCell (p := ⟨w.heap.size + 1, i, none⟩) (by show w.heap.size ≤ w.heap.size + 1; omega) u⟩
theorem b3_new (w : World) (a b c : Array Value) (t1 t2 t3 : TypeId) : B3 w (((w.alloc (.cells a t1)).alloc (.cells b t2)).alloc (.cells c t3)) a.toList b.toList c.toList := by
  have h2 := ownV_alloc (w.alloc (.cells a t1)) b t2
  have h3 := ownV_alloc ((w.alloc (.cells a t1)).alloc (.cells b t2)) c t3
  simp only [World.size_alloc] at h2 h3
  exact ⟨((ownV_alloc w a t1).alloc _).alloc _, h2.alloc _, h3, Below.step (Below.step (Below.alloc1 _ _) (Below.alloc1 _ _)) (Below.alloc1 _ _)⟩

def vBill (id : Int) (sh od : ByteArray) (mn : Int) (hv : Value) : Value := .agg #[.int .i64 id, .string sh, .string od, .int .i64 mn, hv]
def vBook (bv fv : Value) : Value := .agg #[bv, fv]
/-- v is a list of the bills L. -/
def BlsIn (w : World) (v : Value) (L : List BlT) : Prop :=
  ∃ ao cap, v = .slice ao L.length cap ∧ L.length ≤ cap ∧ cap ≤ maxLen ∧ ∀ i, i < L.length → ∃ b o na nc, ao = some ⟨b, o, none⟩ ∧ w.cell? ⟨b, o + i * 5, none⟩ = some (.int .i64 (L.getD i default).1) ∧
    w.cell? ⟨b, o + i * 5 + 1, none⟩ = some (.string (L.getD i default).2.1) ∧ w.cell? ⟨b, o + i * 5 + 2, none⟩ = some (.string (L.getD i default).2.2.1) ∧ w.cell? ⟨b, o + i * 5 + 3, none⟩ = some (.int .i64 (L.getD i default).2.2.2.1) ∧
    w.cell? ⟨b, o + i * 5 + 4, none⟩ = some (.slice na (L.getD i default).2.2.2.2.length nc) ∧ SIn w (.slice na (L.getD i default).2.2.2.2.length nc) (L.getD i default).2.2.2.2
theorem BlsIn.below {w w' : World} {v : Value} {L : List BlT} (h : BlsIn w v L) (hb : Below w.heap.size w w') : BlsIn w' v L := by
  obtain ⟨ao, cap, e, h1, h2, h3⟩ := h
  refine ⟨ao, cap, e, h1, h2, fun i hi => ?_⟩
  obtain ⟨b, o, na, nc, ea, c0, c1, c2, c3, c4, hr⟩ := h3 i hi
  exact ⟨b, o, na, nc, ea, wcell3 c0 hb, wcell3 c1 hb, wcell3 c2 hb, wcell3 c3 hb, wcell3 c4 hb, hr.below hb⟩
theorem blsIn_nil {w : World} : BlsIn w (.slice none 0 0) [] := ⟨none, 0, rfl, Nat.le_refl _, Nat.zero_le _, fun i hi => by simp at hi⟩
theorem BlsIn.slice {w : World} {ao : Option Addr} {m cap : Nat} {L : List BlT} (h : BlsIn w (.slice ao m cap) L) : L.length = m ∧ m ≤ cap ∧ cap ≤ maxLen := by
  obtain ⟨_, _, e, h1, h2, _⟩ := h
  simp only [Value.slice.injEq] at e
  obtain ⟨rfl, rfl, rfl⟩ := e
  exact ⟨rfl, h1, h2⟩
/-- One bill, its parts as letters. -/
def BlAt (w : World) (ao : Option Addr) (k : Nat) (x : BlT) : Prop := ∃ b o na nc id sh od mn H m, ao = some ⟨b, o, none⟩ ∧ w.cell? ⟨b, o + k * 5, none⟩ = some (.int .i64 id) ∧ w.cell? ⟨b, o + k * 5 + 1, none⟩ = some (.string sh) ∧ w.cell? ⟨b, o + k * 5 + 2, none⟩ = some (.string od) ∧
      w.cell? ⟨b, o + k * 5 + 3, none⟩ = some (.int .i64 mn) ∧ w.cell? ⟨b, o + k * 5 + 4, none⟩ = some (.slice na m nc) ∧ SIn w (.slice na m nc) H ∧ Hid (x = (id, sh, od, mn, H)) ∧ Hid (H.length = m) ∧ m ≤ 9223372036854775807
theorem BlsIn.at {w : World} {ao : Option Addr} {m cap : Nat} {L : List BlT} {k : Nat} (h : BlsIn w (.slice ao m cap) L) (hk : k < L.length) : BlAt w ao k (L.getD k default) := by
  obtain ⟨ao', cap', e, h1, h2, h3⟩ := h
  simp only [Value.slice.injEq] at e
  obtain ⟨rfl, rfl, rfl⟩ := e
  obtain ⟨b, o, na, nc, ea, c0, c1, c2, c3, c4, hr⟩ := h3 k hk
  exact ⟨b, o, na, nc, _, _, _, _, _, _, ea, c0, c1, c2, c3, c4, hr, rfl, rfl, by have := hr.slice_len.2; unfold maxLen at this; omega⟩

/-- Texts that are no longer than a machine has. -/
def TxB (x : BlT) : Prop := x.2.1.size ≤ maxLen ∧ x.2.2.1.size ≤ maxLen ∧ ∀ i, i < x.2.2.2.2.length → (x.2.2.2.2.getD i default).size ≤ maxLen
def SizedB (L : List BlT) (r : Int) : Prop := -1 ≤ r ∧ r ≤ 1048576 ∧ (0 ≤ r → L.length ≤ 1048576 ∧ ∀ i, i < L.length → (L.getD i default).2.2.2.2.length ≤ 1048576)

set_option maxHeartbeats 1600000 in
theorem szBill_any (id : Int) (sh od : ByteArray) (mn : Int) (na : Option Addr) (nn nc : Nat) (H : List ByteArray) (left : Int) (w : World) (hN : SIn w (.slice na nn nc) H) (ht : TxB (id, sh, od, mn, H)) (h0 : 0 ≤ left) (h1 : left ≤ 1048576) :
    Calls Try.prog 80 #[vBill id sh od mn (.slice na nn nc), .int .i64 left] w fun e w' => ∃ r, e = .returned (.int .i64 r) ∧ SizedL H.length r ∧ Below w.heap.size w w' := by
  obtain ⟨ht1, ht2, ht3⟩ := ht
  unfold maxLen at ht1 ht2
  dsimp only at ht1 ht2 ht3
  have A := Below.alloc1 w (.cells #[.int .i64 id, .string sh, .string od, .int .i64 mn, .slice na nn nc] 111)
  have HI := hide (hN.below A)
  have HT := hide ht3
  have HW := hide A
  unfold vBill
  obtain ⟨m, em⟩ : ∃ m : Nat, sh.size = m := ⟨_, rfl⟩
  rw [em] at ht1
  obtain ⟨m2, em2⟩ : ∃ m : Nat, od.size = m := ⟨_, rfl⟩
  rw [em2] at ht2
  have q : IntKind.i64.wrap (left - (m : Int)) = left - (m : Int) := by rw [IntKind.wrap_i64]; omega
  clear A hN ht3
  by_cases hlt : left < m
  · go_enter Try.func80, Try.ntmps80
    go_wp2
    go_ret
    exact ⟨_, rfl, ⟨by omega, by omega, fun h => by omega⟩, unhide HW⟩
  · have q2 : IntKind.i64.wrap (left - (m : Int) - (m2 : Int)) = left - (m : Int) - (m2 : Int) := by rw [IntKind.wrap_i64]; omega
    by_cases hlt2 : left - (m : Int) < m2
    · go_enter Try.func80, Try.ntmps80
      go_wp2
      go_ret
      exact ⟨_, rfl, ⟨by omega, by omega, fun h => by omega⟩, unhide HW⟩
    · have HSZ := hide fun l h0 h1 => szStringS_any _ H l _ (unhide HI) (unhide HT) h0 h1
      go_enter Try.func80, Try.ntmps80
      go_wp2_with fail
      refine (unhide HSZ _ (by omega) (by omega)).mono ?_
      rintro e w2 ⟨r, rfl, ⟨hr0, hr1, hr2⟩, hb⟩
      replace HW := hide (Below.step (unhide HW) hb)
      clear hb HSZ
      by_cases hr : r < 0
      · go_wp2
        go_ret
        exact ⟨_, rfl, ⟨by omega, by omega, fun h => by omega⟩, unhide HW⟩
      · go_wp2
        go_ret
        exact ⟨_, rfl, ⟨by omega, by omega, hr2⟩, unhide HW⟩

set_option maxHeartbeats 1600000 in
theorem szBillS_any (v : Value) (L : List BlT) (left : Int) (w : World) (h : BlsIn w v L) (ht : ∀ i, i < L.length → TxB (L.getD i default)) (h0 : 0 ≤ left) (h1 : left ≤ 1048576) :
    Calls Try.prog 49 #[v, .int .i64 left] w fun e w' => ∃ r, e = .returned (.int .i64 r) ∧ SizedB L r ∧ Below w.heap.size w w' := by
  have h' := h
  obtain ⟨ao, cap, rfl, hl, hm, -⟩ := h'
  unfold maxLen at hm
  have HC := hide h
  have HTX := hide ht
  clear h ht
  by_cases hlt : left < L.length
  · go_enter Try.func49, Try.ntmps49
    go_wp2
    go_ret
    exact ⟨_, rfl, ⟨by omega, by omega, fun h => by omega⟩, Below.refl _ _⟩
  · have hL : L.length ≤ 1048576 := by omega
    go_enter Try.func49, Try.ntmps49
    go_wp2
    go_loopg [1, 5] L.length (fun g lv iv wr => ∃ k : Nat, k ≤ L.length ∧ g = L.length - k ∧ iv = .int .i64 k ∧ (∃ l : Int, lv = .int .i64 l ∧ 0 ≤ l ∧ l ≤ 1048576) ∧ Below w.heap.size w wr ∧ Hid (∀ r, r < k → (L.getD r default).2.2.2.2.length ≤ 1048576))
    case atStart => exact ⟨0, Nat.zero_le _, rfl, rfl, ⟨_, rfl, by omega, by omega⟩, Below.refl _ _, fun r hr => by omega⟩
    case round =>
      obtain ⟨k, hk, rfl, rfl, ⟨l, rfl, hl0, hl1⟩, hW, HD⟩ := hrel
      by_cases hkn : k < L.length
      · obtain ⟨b, o, na, nc, id, sh, od, mn, H, m, rfl, hc0, hc1, hc2, hc3, hc4, hr, EX, EM, hm0⟩ := (unhide HC).at hkn
        have hts := unhide HTX k hkn
        rw [unhide EX] at hts
        have HSZ := hide fun V (hV : Below w.heap.size w V) => szBill_any id sh od mn na _ nc H l V (hr.below hV) hts hl0 hl1
        have g0 := wcell3 hc0 hW
        have g1 := wcell3 hc1 hW
        have g2 := wcell3 hc2 hW
        have g3 := wcell3 hc3 hW
        have g4 := wcell3 hc4 hW
        have HW := hide hW
        unfold vBill at HSZ
        have hki : (k : Int) < L.length := by omega
        clear hc0 hc1 hc2 hc3 hc4 hW hr hts
        go_wp2_with fail
        refine (unhide HSZ _ (unhide HW)).mono ?_
        rintro e w1 ⟨r, rfl, ⟨hr0, hr1, hr2⟩, hb⟩
        have HW1 := hide (Below.step (unhide HW) hb)
        have HR := hide hr2
        clear hb HSZ HW hr2
        by_cases hr : r < 0
        · go_wp2
          go_ret
          exact ⟨_, rfl, ⟨by omega, by omega, fun h => by omega⟩, unhide HW1⟩
        · go_wp2
          go_roundg (L.length - (k + 1))
          case measure => omega
          case rel => exact ⟨k + 1, by omega, rfl, by go_num, ⟨_, rfl, by omega, by omega⟩, unhide HW1, fun q hq => by
            by_cases e : q = k
            · subst e; rw [unhide EX]; exact unhide HR (by omega)
            · exact HD.out q (by omega)⟩
      · go_wp2
        go_ret
        exact ⟨_, rfl, ⟨by omega, by omega, fun h => ⟨hL, fun i hi => HD.out i (by omega)⟩⟩, hW⟩

/-- v is the book b. -/
def BkIn (w : World) (bv fv : Value) (b : BkT) : Prop := BlsIn w bv b.1 ∧ IntsIn w fv b.2
theorem BkIn.below {w w' : World} {bv fv : Value} {b : BkT} (h : BkIn w bv fv b) (hb : Below w.heap.size w w') : BkIn w' bv fv b := ⟨h.1.below hb, h.2.below hb⟩
theorem bd_mk {b : BkT} (h1 : b.1.length ≤ 1048576) (h2 : b.2.length ≤ 1048576) (h3 : ∀ i, i < b.1.length → (b.1.getD i default).2.2.2.2.length ≤ 1048576) : Bd b :=
  ⟨h1, h2, fun x hx => by
    obtain ⟨i, hi, rfl⟩ := List.mem_iff_getElem.1 hx
    have := h3 i hi
    rwa [getD_lt hi] at this⟩
theorem Bd.held {b : BkT} (h : Bd b) {i : Nat} (hi : i < b.1.length) : (b.1.getD i default).2.2.2.2.length ≤ 1048576 := by
  rw [getD_lt hi]
  exact h.2.2 _ (List.getElem_mem _)

set_option maxHeartbeats 1600000 in
theorem szBook_any (bv fv : Value) (b : BkT) (left : Int) (w : World) (h : BkIn w bv fv b) (ht : ∀ i, i < b.1.length → TxB (b.1.getD i default)) (h0 : 0 ≤ left) (h1 : left ≤ 1048576) :
    Calls Try.prog 15 #[vBook bv fv, .int .i64 left] w fun e w' => ∃ r, e = .returned (.int .i64 r) ∧ -1 ≤ r ∧ r ≤ 1048576 ∧ (0 ≤ r → Bd b) ∧ Below w.heap.size w w' := by
  have h' := h
  obtain ⟨⟨ao, cap, rfl, -⟩, ⟨fo, fcap, rfl, -⟩⟩ := h'
  have A := Below.alloc1 w (.cells #[.slice ao b.1.length cap, .slice fo b.2.length fcap] 47)
  have O := ownV_alloc w #[.slice ao b.1.length cap, .slice fo b.2.length fcap] 47
  have HW := hide A
  have HO := hide O
  have HSB := hide (szBillS_any _ b.1 left _ (h.1.below A) ht h0 h1)
  have HF := hide h.2
  unfold vBook
  clear A O h ht
  go_enter Try.func15, Try.ntmps15
  go_wp2_with fail
  refine (unhide HSB).mono ?_
  rintro e w2 ⟨r, rfl, ⟨hr0, hr1, hr2⟩, hb⟩
  replace HW := hide (Below.step (unhide HW) hb)
  replace HO := hide ((unhide HO).step hb)
  have HR := hide hr2
  clear hb hr2 HSB
  have c1 := (unhide HO).cell (i := 1) rfl
  by_cases hr : r < 0
  · go_wp2
    go_ret
    exact ⟨_, rfl, by omega, by omega, fun h => by omega, unhide HW⟩
  · obtain ⟨q1, q2⟩ := unhide HR (by omega)
    have HQ := hide q2
    clear q2 HR
    by_cases hlt : r < (b.2.length : Int)
    · have HSF := hide (szIntS_no _ b.2 r _ ((unhide HF).below (unhide HW)) (by omega) (by omega) hlt)
      go_wp2_with fail
      refine (unhide HSF).mono ?_
      rintro e w3 ⟨rfl, h9⟩
      subst h9
      clear HSF
      go_wp2
      go_ret
      exact ⟨_, rfl, by omega, by omega, fun h => by omega, unhide HW⟩
    · have HSF := hide (szIntS_yes _ b.2 r _ ((unhide HF).below (unhide HW)) (by omega) (by omega))
      go_wp2_with fail
      refine (unhide HSF).mono ?_
      rintro e w3 ⟨rfl, h9⟩
      subst h9
      clear HSF
      have hd : decide (r - (b.2.length : Int) < 0) = false := by rw [decide_eq_false_iff_not]; omega
      go_wp2
      go_ret
      exact ⟨_, rfl, by omega, by omega, fun _ => bd_mk q1 (by omega) (unhide HQ), unhide HW⟩

end Go.Proofs.Ytdcbonfhakdhhaa
