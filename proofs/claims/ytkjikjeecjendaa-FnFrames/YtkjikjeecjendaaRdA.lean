/- Lists of radios: words; contracts of the laws' own szRadio, szRadioS. No statement about the program stands here. -/
import Derived.Test.YtkjikjeecjendaaOwnInts
import Derived.Test.YtkjikjeecjendaaWalkF
import Derived.Test.YtkjikjeecjendaaExactKit
import Derived.BigQuiet
namespace Go.Proofs.Ytkjikjeecjendaa
open Go.RowKit

/-- Three boxes of the call's own. -/
structure B3 (w W : World) (a b c : List Value) : Prop where
  o1 : OwnV W w.heap.size a
  o2 : OwnV W (w.heap.size + 1) b
  o3 : OwnV W (w.heap.size + 1 + 1) c
  below : Below w.heap.size w W
theorem B3.step {w W W' : World} {a b c : List Value} (h : B3 w W a b c) (hb : Below W.heap.size W W') : B3 w W' a b c := ⟨h.o1.step hb, h.o2.step hb, h.o3.step hb, Below.step h.below hb⟩
theorem B3.put3 {w W : World} {a b c : List Value} (h : B3 w W a b c) (i : Nat) (u : Value) (hi : i < c.length) : B3 w (W.setCell ⟨w.heap.size + 1 + 1, i, none⟩ u) a b (c.set i u) :=
  ⟨h.o1.other (a := ⟨w.heap.size + 1 + 1, i, none⟩) (by show w.heap.size ≠ w.heap.size + 1 + 1; omega) u, h.o2.other (a := ⟨w.heap.size + 1 + 1, i, none⟩) (by show w.heap.size + 1 ≠ w.heap.size + 1 + 1; omega) u, h.o3.set i u hi, h.below.setCell (p := ⟨w.heap.size + 1 + 1, i, none⟩) (by show w.heap.size ≤ w.heap.size + 1 + 1; omega) u⟩
theorem B3.put2 {w W : World} {a b c : List Value} (h : B3 w W a b c) (i : Nat) (u : Value) (hi : i < b.length) : B3 w (W.setCell ⟨w.heap.size + 1, i, none⟩ u) a (b.set i u) c :=
  ⟨h.o1.other (a := ⟨w.heap.size + 1, i, none⟩) (by show w.heap.size ≠ w.heap.size + 1; omega) u, h.o2.set i u hi, h.o3.other (a := ⟨w.heap.size + 1, i, none⟩) (by show w.heap.size + 1 + 1 ≠ w.heap.size + 1; omega) u, h.below.setCell (p := ⟨w.heap.size + 1, i, none⟩) (by show w.heap.size ≤ w.heap.size + 1; omega) u⟩
theorem b3_new (w : World) (a b c : Array Value) (t1 t2 t3 : TypeId) : B3 w (((w.alloc (.cells a t1)).alloc (.cells b t2)).alloc (.cells c t3)) a.toList b.toList c.toList := by
  have h2 := ownV_alloc (w.alloc (.cells a t1)) b t2
  have h3 := ownV_alloc ((w.alloc (.cells a t1)).alloc (.cells b t2)) c t3
  simp only [World.size_alloc] at h2 h3
  exact ⟨((ownV_alloc w a t1).alloc _).alloc _, h2.alloc _, h3, Below.step (Below.step (Below.alloc1 _ _) (Below.alloc1 _ _)) (Below.alloc1 _ _)⟩

theorem farN {W : World} {g g' : Nat} {vs : List Value} (h : OwnV W g vs) (hne : g ≠ g') (i : Nat) (u : Value) : OwnV (W.setCell ⟨g', i, none⟩ u) g vs := h.other (a := ⟨g', i, none⟩) hne u

def vRadio (id sl : Int) (hv : Value) : Value := .agg #[.int .i64 id, .int .i64 sl, hv]
/-- Id, slot, and the places of those that it hears. -/
abbrev Rad := Int × Int × List Int
/-- v is a list of the radios L. -/
def RadsIn (w : World) (v : Value) (L : List Rad) : Prop :=
  ∃ ao cap, v = .slice ao L.length cap ∧ L.length ≤ cap ∧ cap ≤ maxLen ∧ ∀ i, i < L.length → ∃ b o na nc, ao = some ⟨b, o, none⟩ ∧ w.cell? ⟨b, o + i * 3, none⟩ = some (.int .i64 (L.getD i default).1) ∧
    w.cell? ⟨b, o + i * 3 + 1, none⟩ = some (.int .i64 (L.getD i default).2.1) ∧
    w.cell? ⟨b, o + i * 3 + 2, none⟩ = some (.slice na (L.getD i default).2.2.length nc) ∧ IntsIn w (.slice na (L.getD i default).2.2.length nc) (L.getD i default).2.2

theorem RadsIn.below {w w' : World} {v : Value} {L : List Rad} (h : RadsIn w v L) (hb : Below w.heap.size w w') : RadsIn w' v L := by
  obtain ⟨ao, cap, e, h1, h2, h3⟩ := h
  refine ⟨ao, cap, e, h1, h2, fun i hi => ?_⟩
  obtain ⟨b, o, na, nc, ea, c0, c1, c2, hr⟩ := h3 i hi
  exact ⟨b, o, na, nc, ea, wcell3 c0 hb, wcell3 c1 hb, wcell3 c2 hb, hr.below hb⟩
theorem radsIn_nil {w : World} : RadsIn w (.slice none 0 0) [] := ⟨none, 0, rfl, Nat.le_refl _, Nat.zero_le _, fun i hi => by simp at hi⟩

/-- One radio, its parts as letters. -/
theorem radAt {w : World} {ao : Option Addr} {L : List Rad} {k : Nat} (h : ∀ i, i < L.length → ∃ b o na nc, ao = some ⟨b, o, none⟩ ∧ w.cell? ⟨b, o + i * 3, none⟩ = some (.int .i64 (L.getD i default).1) ∧
    w.cell? ⟨b, o + i * 3 + 1, none⟩ = some (.int .i64 (L.getD i default).2.1) ∧
    w.cell? ⟨b, o + i * 3 + 2, none⟩ = some (.slice na (L.getD i default).2.2.length nc) ∧ IntsIn w (.slice na (L.getD i default).2.2.length nc) (L.getD i default).2.2) (hk : k < L.length) :
    ∃ b o na nc id sl H m, ao = some ⟨b, o, none⟩ ∧ w.cell? ⟨b, o + k * 3, none⟩ = some (.int .i64 id) ∧ w.cell? ⟨b, o + k * 3 + 1, none⟩ = some (.int .i64 sl) ∧
      w.cell? ⟨b, o + k * 3 + 2, none⟩ = some (.slice na m nc) ∧ IntsIn w (.slice na m nc) H ∧ Hid (L.getD k default = (id, sl, H)) ∧ Hid (H.length = m) ∧ m ≤ 9223372036854775807 := by
  obtain ⟨b, o, na, nc, ea, c0, c1, c2, hr⟩ := h k hk
  exact ⟨b, o, na, nc, _, _, _, _, ea, c0, c1, c2, hr, rfl, rfl, by have := hr.len.2; unfold maxLen at this; omega⟩

def SizedR (L : List Rad) (r : Int) : Prop := -1 ≤ r ∧ r ≤ 1048576 ∧ (0 ≤ r → L.length ≤ 1048576 ∧ ∀ i, i < L.length → (L.getD i default).2.2.length ≤ 1048576)

set_option maxHeartbeats 1600000 in
theorem szRadio_any (id sl : Int) (na : Option Addr) (nn nc : Nat) (H : List Int) (left : Int) (w : World) (hN : IntsIn w (.slice na nn nc) H) (h0 : 0 ≤ left) (h1 : left ≤ 1048576) :
    Calls Try.prog 72 #[vRadio id sl (.slice na nn nc), .int .i64 left] w fun e w' => ∃ r, e = .returned (.int .i64 r) ∧ SizedL H.length r ∧ Below w.heap.size w w' := by
  have A := Below.alloc1 w (.cells #[.int .i64 id, .int .i64 sl, .slice na nn nc] 90)
  have hI := hN.below A
  have HW := hide A
  unfold vRadio
  by_cases hlt : left < (H.length : Int)
  · have HSZ := hide (szIntS_no _ H left _ hI h0 h1 hlt)
    clear hN hI A
    go_enter Try.func72, Try.ntmps72
    go_wp2_with fail
    refine (unhide HSZ).mono ?_
    rintro e w2 ⟨rfl, h9⟩
    subst h9
    clear HSZ
    go_wp2
    go_ret
    exact ⟨_, rfl, ⟨by omega, by omega, fun h => by omega⟩, unhide HW⟩
  · have HSZ := hide (szIntS_yes _ H left _ hI h1 (by omega))
    clear hN hI A
    go_enter Try.func72, Try.ntmps72
    go_wp2_with fail
    refine (unhide HSZ).mono ?_
    rintro e w2 ⟨rfl, h9⟩
    subst h9
    clear HSZ
    have hd : decide (left - (H.length : Int) < 0) = false := by rw [decide_eq_false_iff_not]; omega
    go_wp2
    go_ret
    exact ⟨_, rfl, ⟨by omega, by omega, fun h => by omega⟩, unhide HW⟩

set_option maxHeartbeats 1600000 in
theorem szRadioS_any (v : Value) (L : List Rad) (left : Int) (w : World) (h : RadsIn w v L) (h0 : 0 ≤ left) (h1 : left ≤ 1048576) :
    Calls Try.prog 36 #[v, .int .i64 left] w fun e w' => ∃ r, e = .returned (.int .i64 r) ∧ SizedR L r ∧ Below w.heap.size w w' := by
  obtain ⟨ao, cap, rfl, hl, hm, hc⟩ := h
  unfold maxLen at hm
  have HC := hide hc
  clear hc
  by_cases hlt : left < L.length
  · go_enter Try.func36, Try.ntmps36
    go_wp2
    go_ret
    exact ⟨_, rfl, ⟨by omega, by omega, fun h => by omega⟩, Below.refl _ _⟩
  · have hL : L.length ≤ 1048576 := by omega
    go_enter Try.func36, Try.ntmps36
    go_wp2
    go_loopg [1, 5] L.length (fun g lv iv wr => ∃ k : Nat, k ≤ L.length ∧ g = L.length - k ∧ iv = .int .i64 k ∧ (∃ l : Int, lv = .int .i64 l ∧ 0 ≤ l ∧ l ≤ 1048576) ∧ Below w.heap.size w wr ∧ Hid (∀ r, r < k → (L.getD r default).2.2.length ≤ 1048576))
    case atStart => exact ⟨0, Nat.zero_le _, rfl, rfl, ⟨_, rfl, by omega, by omega⟩, Below.refl _ _, fun r hr => by omega⟩
    case round =>
      obtain ⟨k, hk, rfl, rfl, ⟨l, rfl, hl0, hl1⟩, hW, HD⟩ := hrel
      by_cases hkn : k < L.length
      · obtain ⟨b, o, na, nc, id, sl, H, m, rfl, hc0, hc1, hc2, hr, EX, EM, hm0⟩ := radAt (unhide HC) hkn
        have HSZ := hide fun V (hV : Below w.heap.size w V) => szRadio_any id sl na _ nc H l V (hr.below hV) hl0 hl1
        have g0 := wcell3 hc0 hW
        have g1 := wcell3 hc1 hW
        have g2 := wcell3 hc2 hW
        have HW := hide hW
        unfold vRadio at HSZ
        have hki : (k : Int) < L.length := by omega
        clear hc0 hc1 hc2 hW hr
        go_wp2_with fail
        refine (unhide HSZ _ (unhide HW)).mono ?_
        rintro e w1 ⟨r, rfl, ⟨hr0, hr1, hr2⟩, hb⟩
        have HW1 := hide (Below.step (unhide HW) hb)
        have HR := hide hr2
        clear hb HSZ HW hr2
        by_cases hr : r < 0
        · go_wp2
          go_ret
          exact ⟨_, rfl, ⟨by omega, by omega, fun h => by omega⟩, unhide HW1⟩
        · go_wp2
          go_roundg (L.length - (k + 1))
          case measure => omega
          case rel => exact ⟨k + 1, by omega, rfl, by go_num, ⟨_, rfl, by omega, by omega⟩, unhide HW1, fun q hq => by
            by_cases e : q = k
            · subst e; rw [unhide EX]; exact unhide HR (by omega)
            · exact HD.out q (by omega)⟩
      · go_wp2
        go_ret
        exact ⟨_, rfl, ⟨by omega, by omega, fun h => ⟨hL, fun i hi => HD.out i (by omega)⟩⟩, hW⟩

end Go.Proofs.Ytkjikjeecjendaa
