/- Segments in memory: words; contracts of the laws' own szStringSS, szSeg, szSegS. No statement about the program stands here. -/
import Derived.Test.YtjpogaidcmndoaaBlS
import Derived.Test.YtjpogaidcmndoaaPaA
import Derived.Test.YtjpogaidcmndoaaStR
namespace Go.Proofs.Ytjpogaidcmndoaa
open Go.RowKit

abbrev PartsT := List (List ByteArray)
abbrev SegT := ByteArray × PartsT
def vSeg (t : ByteArray) (pv : Value) : Value := .agg #[.string t, pv]
/-- v is a list of the lists of texts P. -/
def SsIn (w : World) (v : Value) (P : PartsT) : Prop :=
  ∃ ao cap, v = .slice ao P.length cap ∧ P.length ≤ cap ∧ cap ≤ maxLen ∧ ∀ i, i < P.length → ∃ b o na nc, ao = some ⟨b, o, none⟩ ∧ w.cell? ⟨b, o + i, none⟩ = some (.slice na (P.getD i default).length nc) ∧ SIn w (.slice na (P.getD i default).length nc) (P.getD i default)
theorem SsIn.below {w w' : World} {v : Value} {P : PartsT} (h : SsIn w v P) (hb : Below w.heap.size w w') : SsIn w' v P := by
  obtain ⟨ao, cap, e, h1, h2, h3⟩ := h
  refine ⟨ao, cap, e, h1, h2, fun i hi => ?_⟩
  obtain ⟨b, o, na, nc, ea, c, hr⟩ := h3 i hi
  exact ⟨b, o, na, nc, ea, wcell3 c hb, hr.below hb⟩
theorem ssIn_nil {w : World} : SsIn w (.slice none 0 0) [] := ⟨none, 0, rfl, Nat.le_refl _, Nat.zero_le _, fun i hi => by simp at hi⟩
theorem SsIn.slice {w : World} {ao : Option Addr} {m cap : Nat} {P : PartsT} (h : SsIn w (.slice ao m cap) P) : P.length = m ∧ m ≤ cap ∧ cap ≤ maxLen := by
  obtain ⟨_, _, e, h1, h2, _⟩ := h
  simp only [Value.slice.injEq] at e
  obtain ⟨rfl, rfl, rfl⟩ := e
  exact ⟨rfl, h1, h2⟩
/-- One list of texts, as letters. -/
theorem SsIn.at {w : World} {ao : Option Addr} {m cap : Nat} {P : PartsT} {k : Nat} (h : SsIn w (.slice ao m cap) P) (hk : k < P.length) :
    ∃ b o na nc n T, ao = some ⟨b, o, none⟩ ∧ w.cell? ⟨b, o + k, none⟩ = some (.slice na n nc) ∧ SIn w (.slice na n nc) T ∧ Hid (P.getD k default = T) ∧ Hid (T.length = n) ∧ n ≤ 9223372036854775807 := by
  obtain ⟨ao', cap', e, h1, h2, h3⟩ := h
  simp only [Value.slice.injEq] at e
  obtain ⟨rfl, rfl, rfl⟩ := e
  obtain ⟨b, o, na, nc, ea, c, hr⟩ := h3 k hk
  exact ⟨b, o, na, nc, _, _, ea, c, hr, rfl, rfl, by have := hr.slice_len.2; unfold maxLen at this; omega⟩
/-- v is a list of the segments L. -/
def SgsIn (w : World) (v : Value) (L : List SegT) : Prop :=
  ∃ ao cap, v = .slice ao L.length cap ∧ L.length ≤ cap ∧ cap ≤ maxLen ∧ ∀ i, i < L.length → ∃ b o na nc, ao = some ⟨b, o, none⟩ ∧ w.cell? ⟨b, o + i * 2, none⟩ = some (.string (L.getD i default).1) ∧ w.cell? ⟨b, o + i * 2 + 1, none⟩ = some (.slice na (L.getD i default).2.length nc) ∧ SsIn w (.slice na (L.getD i default).2.length nc) (L.getD i default).2
theorem SgsIn.below {w w' : World} {v : Value} {L : List SegT} (h : SgsIn w v L) (hb : Below w.heap.size w w') : SgsIn w' v L := by
  obtain ⟨ao, cap, e, h1, h2, h3⟩ := h
  refine ⟨ao, cap, e, h1, h2, fun i hi => ?_⟩
  obtain ⟨b, o, na, nc, ea, c0, c1, hr⟩ := h3 i hi
  exact ⟨b, o, na, nc, ea, wcell3 c0 hb, wcell3 c1 hb, hr.below hb⟩
theorem sgsIn_nil {w : World} : SgsIn w (.slice none 0 0) [] := ⟨none, 0, rfl, Nat.le_refl _, Nat.zero_le _, fun i hi => by simp at hi⟩
theorem SgsIn.slice {w : World} {ao : Option Addr} {m cap : Nat} {L : List SegT} (h : SgsIn w (.slice ao m cap) L) : L.length = m ∧ m ≤ cap ∧ cap ≤ maxLen := by
  obtain ⟨_, _, e, h1, h2, _⟩ := h
  simp only [Value.slice.injEq] at e
  obtain ⟨rfl, rfl, rfl⟩ := e
  exact ⟨rfl, h1, h2⟩
theorem SgsIn.at {w : World} {ao : Option Addr} {m cap : Nat} {L : List SegT} {k : Nat} (h : SgsIn w (.slice ao m cap) L) (hk : k < L.length) :
    ∃ b o na nc n t P, ao = some ⟨b, o, none⟩ ∧ w.cell? ⟨b, o + k * 2, none⟩ = some (.string t) ∧ w.cell? ⟨b, o + k * 2 + 1, none⟩ = some (.slice na n nc) ∧ SsIn w (.slice na n nc) P ∧ Hid (L.getD k default = (t, P)) ∧ Hid (P.length = n) ∧ n ≤ 9223372036854775807 := by
  obtain ⟨ao', cap', e, h1, h2, h3⟩ := h
  simp only [Value.slice.injEq] at e
  obtain ⟨rfl, rfl, rfl⟩ := e
  obtain ⟨b, o, na, nc, ea, c0, c1, hr⟩ := h3 k hk
  exact ⟨b, o, na, nc, _, _, _, ea, c0, c1, hr, rfl, rfl, by have := hr.slice.2; unfold maxLen at this; omega⟩
/-- Texts that are no longer than a machine has. -/
def TxSs (P : PartsT) : Prop := ∀ i, i < P.length → ∀ j, j < (P.getD i default).length → ((P.getD i default).getD j default).size ≤ maxLen
def TxSg (L : List SegT) : Prop := ∀ i, i < L.length → (L.getD i default).1.size ≤ maxLen ∧ TxSs (L.getD i default).2
/-- Not too long for the laws' own measure. -/
def BdSs (P : PartsT) : Prop := P.length ≤ 1048576 ∧ ∀ i, i < P.length → (P.getD i default).length ≤ 1048576
def BdSg (L : List SegT) : Prop := L.length ≤ 1048576 ∧ ∀ i, i < L.length → (L.getD i default).1.size ≤ 1048576 ∧ BdSs (L.getD i default).2

set_option maxHeartbeats 1600000 in
theorem szStringSS_any (v : Value) (P : PartsT) (left : Int) (w : World) (h : SsIn w v P) (ht : TxSs P) (h0 : 0 ≤ left) (h1 : left ≤ 1048576) :
    Calls Try.prog 70 #[v, .int .i64 left] w fun e w' => ∃ r, e = .returned (.int .i64 r) ∧ -1 ≤ r ∧ r ≤ 1048576 ∧ (0 ≤ r → BdSs P) ∧ Below w.heap.size w w' := by
  have HC := hide h
  have HTX := hide ht
  obtain ⟨ao, cap, rfl, hl, hm, -⟩ := h
  unfold maxLen at hm
  clear ht
  by_cases hlt : left < P.length
  · go_enter Try.func70, Try.ntmps70
    go_wp2
    go_ret
    exact ⟨_, rfl, by omega, by omega, fun h => by omega, Below.refl _ _⟩
  · have hL : P.length ≤ 1048576 := by omega
    go_enter Try.func70, Try.ntmps70
    go_wp2
    go_loopg [1, 5] P.length (fun g lv iv wr => ∃ k : Nat, k ≤ P.length ∧ g = P.length - k ∧ iv = .int .i64 k ∧ (∃ l : Int, lv = .int .i64 l ∧ 0 ≤ l ∧ l ≤ 1048576) ∧ Below w.heap.size w wr ∧ Hid (∀ r, r < k → (P.getD r default).length ≤ 1048576))
    case atStart => exact ⟨0, Nat.zero_le _, rfl, rfl, ⟨_, rfl, by omega, by omega⟩, Below.refl _ _, fun r hr => by omega⟩
    case round =>
      obtain ⟨k, hk, rfl, rfl, ⟨l, rfl, hl0, hl1⟩, hW, HD⟩ := hrel
      by_cases hkn : k < P.length
      · obtain ⟨b, o, na, nc, n, T, rfl, hc, hr, EX, EM, hn⟩ := (unhide HC).at hkn
        have hts := unhide HTX k hkn
        rw [unhide EX] at hts
        have HSZ := hide fun V (hV : Below w.heap.size w V) => szStringS_any _ T l V (hr.below hV) hts hl0 hl1
        have g0 := wcell3 hc hW
        have HW := hide hW
        have hki : (k : Int) < P.length := by omega
        clear hc hW hr hts
        go_wp2_with fail
        refine (unhide HSZ _ (unhide HW)).mono ?_
        rintro e w1 ⟨r, rfl, ⟨hr0, hr1, hr2⟩, hb⟩
        have HW1 := hide (Below.step (unhide HW) hb)
        have HR := hide hr2
        clear hb HSZ HW hr2
        by_cases hr : r < 0
        · go_wp2
          go_ret
          exact ⟨_, rfl, by omega, by omega, fun h => by omega, unhide HW1⟩
        · go_wp2
          go_roundg (P.length - (k + 1))
          case measure => omega
          case rel => exact ⟨k + 1, by omega, rfl, by go_num, ⟨_, rfl, by omega, by omega⟩, unhide HW1, fun q hq => by
            by_cases e : q = k
            · subst e; rw [unhide EX]; exact unhide HR (by omega)
            · exact HD.out q (by omega)⟩
      · have hki : ¬ (k : Int) < P.length := by omega
        go_wp2
        go_ret
        exact ⟨_, rfl, by omega, by omega, fun h => ⟨hL, fun i hi => HD.out i (by omega)⟩, hW⟩

set_option maxHeartbeats 1600000 in
theorem szSeg_any (t : ByteArray) (na : Option Addr) (nn nc : Nat) (P : PartsT) (left : Int) (w : World) (hN : SsIn w (.slice na nn nc) P) (ht : t.size ≤ maxLen) (ht2 : TxSs P) (h0 : 0 ≤ left) (h1 : left ≤ 1048576) :
    Calls Try.prog 37 #[vSeg t (.slice na nn nc), .int .i64 left] w fun e w' => ∃ r, e = .returned (.int .i64 r) ∧ -1 ≤ r ∧ r ≤ 1048576 ∧ (0 ≤ r → t.size ≤ 1048576 ∧ BdSs P) ∧ Below w.heap.size w w' := by
  unfold maxLen at ht
  have A := Below.alloc1 w (.cells #[.string t, .slice na nn nc] 64)
  have HI := hide (hN.below A)
  have HW := hide A
  unfold vSeg
  obtain ⟨m, em⟩ : ∃ m : Nat, t.size = m := ⟨_, rfl⟩
  rw [em] at ht ⊢
  have q : IntKind.i64.wrap (left - (m : Int)) = left - (m : Int) := by rw [IntKind.wrap_i64]; omega
  clear A hN
  by_cases hlt : left < m
  · go_enter Try.func37, Try.ntmps37
    go_wp2
    go_ret
    exact ⟨_, rfl, by omega, by omega, fun h => by omega, unhide HW⟩
  · have HSZ := hide fun l h0 h1 => szStringSS_any _ P l _ (unhide HI) ht2 h0 h1
    go_enter Try.func37, Try.ntmps37
    go_wp2_with fail
    refine (unhide HSZ _ (by omega) (by omega)).mono ?_
    rintro e w2 ⟨r, rfl, hr0, hr1, hr2, hb⟩
    replace HW := hide (Below.step (unhide HW) hb)
    have HR := hide hr2
    clear hb HSZ hr2
    by_cases hr : r < 0
    · go_wp2
      go_ret
      exact ⟨_, rfl, by omega, by omega, fun h => by omega, unhide HW⟩
    · go_wp2
      go_ret
      exact ⟨_, rfl, by omega, by omega, fun h => ⟨by omega, unhide HR (by omega)⟩, unhide HW⟩

set_option maxHeartbeats 1600000 in
theorem szSegS_any (v : Value) (L : List SegT) (left : Int) (w : World) (h : SgsIn w v L) (ht : TxSg L) (h0 : 0 ≤ left) (h1 : left ≤ 1048576) :
    Calls Try.prog 15 #[v, .int .i64 left] w fun e w' => ∃ r, e = .returned (.int .i64 r) ∧ -1 ≤ r ∧ r ≤ 1048576 ∧ (0 ≤ r → BdSg L) ∧ Below w.heap.size w w' := by
  have HC := hide h
  have HTX := hide ht
  obtain ⟨ao, cap, rfl, hl, hm, -⟩ := h
  unfold maxLen at hm
  clear ht
  by_cases hlt : left < L.length
  · go_enter Try.func15, Try.ntmps15
    go_wp2
    go_ret
    exact ⟨_, rfl, by omega, by omega, fun h => by omega, Below.refl _ _⟩
  · have hL : L.length ≤ 1048576 := by omega
    go_enter Try.func15, Try.ntmps15
    go_wp2
    go_loopg [1, 5] L.length (fun g lv iv wr => ∃ k : Nat, k ≤ L.length ∧ g = L.length - k ∧ iv = .int .i64 k ∧ (∃ l : Int, lv = .int .i64 l ∧ 0 ≤ l ∧ l ≤ 1048576) ∧ Below w.heap.size w wr ∧ Hid (∀ r, r < k → (L.getD r default).1.size ≤ 1048576 ∧ BdSs (L.getD r default).2))
    case atStart => exact ⟨0, Nat.zero_le _, rfl, rfl, ⟨_, rfl, by omega, by omega⟩, Below.refl _ _, fun r hr => by omega⟩
    case round =>
      obtain ⟨k, hk, rfl, rfl, ⟨l, rfl, hl0, hl1⟩, hW, HD⟩ := hrel
      by_cases hkn : k < L.length
      · obtain ⟨b, o, na, nc, n, t, P, rfl, hc0, hc1, hr, EX, EM, hn⟩ := (unhide HC).at hkn
        have hts := unhide HTX k hkn
        rw [unhide EX] at hts
        have HSZ := hide fun V (hV : Below w.heap.size w V) => szSeg_any t na n nc P l V (hr.below hV) hts.1 hts.2 hl0 hl1
        have g0 := wcell3 hc0 hW
        have g1 := wcell3 hc1 hW
        have HW := hide hW
        unfold vSeg at HSZ
        have hki : (k : Int) < L.length := by omega
        clear hc0 hc1 hW hr hts
        go_wp2_with fail
        refine (unhide HSZ _ (unhide HW)).mono ?_
        rintro e w1 ⟨r, rfl, hr0, hr1, hr2, hb⟩
        have HW1 := hide (Below.step (unhide HW) hb)
        have HR := hide hr2
        clear hb HSZ HW hr2
        by_cases hr : r < 0
        · go_wp2
          go_ret
          exact ⟨_, rfl, by omega, by omega, fun h => by omega, unhide HW1⟩
        · go_wp2
          go_roundg (L.length - (k + 1))
          case measure => omega
          case rel => exact ⟨k + 1, by omega, rfl, by go_num, ⟨_, rfl, by omega, by omega⟩, unhide HW1, fun q hq => by
            by_cases e : q = k
            · subst e; rw [unhide EX]; exact unhide HR (by omega)
            · exact HD.out q (by omega)⟩
      · have hki : ¬ (k : Int) < L.length := by omega
        go_wp2
        go_ret
        exact ⟨_, rfl, by omega, by omega, fun h => ⟨hL, fun i hi => HD.out i (by omega)⟩, hW⟩

end Go.Proofs.Ytjpogaidcmndoaa
