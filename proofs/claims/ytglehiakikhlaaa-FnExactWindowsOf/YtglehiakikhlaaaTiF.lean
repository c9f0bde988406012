/- Contracts of the program's goThrough (it closes the last window by a deferred call) and WindowsOf. -/
import Derived.Test.YtglehiakikhlaaaTiE
namespace Go.Proofs.Ytglehiakikhlaaa
open Go.RowKit

/-- What the program holds behind k minutes, beside what the specification does. -/
def toldRel (s : WS) (k : Nat) (L : List I2) (f : Int) (o : Bool) : Prop := s.o = o ∧ s.L = if o = true then L ++ [(f, (k : Int) - 1)] else L
theorem toldRel.len {s : WS} {k : Nat} {L : List I2} {f : Int} {o : Bool} (h : toldRel s k L f o) : L.length ≤ s.L.length := by
  rw [h.2]
  split
  · simp
  · exact Nat.le_refl _
theorem toldRel.deep {s : WS} {k : Nat} {L : List I2} {f : Int} {o : Bool} (h : toldRel s k L f o) : toldRel (s.step k true) (k + 1) L (if o = true then f else (k : Int)) true := by
  obtain ⟨h1, h2⟩ := h
  cases o with
  | true =>
    rw [if_pos rfl] at h2 ⊢
    refine ⟨by simp [WS.step, h1], ?_⟩
    rw [if_pos rfl]
    simp only [WS.step, h1, if_true, WS.last, h2]
    simp
  | false =>
    rw [if_neg (by simp)] at h2 ⊢
    refine ⟨by simp [WS.step, h1], ?_⟩
    rw [if_pos rfl]
    simp [WS.step, h1, h2]
theorem toldRel.not {s : WS} {k : Nat} {L : List I2} {f : Int} {o : Bool} (h : toldRel s k L f o) : toldRel (s.step k false) (k + 1) (if o = true then L ++ [(f, (k : Int) - 1)] else L) f false := ⟨rfl, h.2⟩

theorem WBox.new (w : World) : WBox w.heap.size (w.alloc (.cells #[.slice none 0 0, .int .i64 0, .bool false] 78)) (.slice none 0 0) [] 0 false :=
  ⟨ownV_alloc w #[.slice none 0 0, .int .i64 0, .bool false] 78, rfl, Or.inl ⟨rfl, rfl⟩⟩
theorem WBox.told {B : Nat} {A : World} {v : Value} {L : List I2} {f : Int} {o : Bool} (h : WBox B A v L f o) : ∃ a n cp, v = .slice a n cp ∧ OwnWi B A (.slice a n cp) L := by
  have ho := ownsRow_ownWi h.row rfl
  obtain ⟨ao, cap, e, h1, h2, h3⟩ := ho
  refine ⟨ao, L.length, cap, e, ao, cap, rfl, h1, h2, fun hne => ?_⟩
  obtain ⟨g, e1, hg, ho⟩ := h3 hne
  exact ⟨g, e1, by omega, ho⟩

set_option maxRecDepth 10000 in
set_option maxHeartbeats 4000000 in
theorem goThrough_any (v : Value) (xs : List Nat) (need : Nat) (A0 A : World) (h : FlIn A0 v xs) (h1500 : xs.length ≤ 1500) (hb : Below A0.heap.size A0 A) (hB : WBox A0.heap.size A (.slice none 0 0) [] 0 false) :
    Calls Try.prog 49 #[.pointer (some ⟨A0.heap.size, 0, none⟩), v, .float .f64 need] A fun e A' => e = .returned (.tuple #[]) ∧ (∃ v' f', WBox A0.heap.size A' v' (winTo (deepAt xs need) xs.length).L f' false) ∧ Below A0.heap.size A0 A' := by
  obtain ⟨ao, cap, rfl, hl, hm, hc⟩ := h
  unfold maxLen at hm
  have HC := hide hc
  have HS := hide hb
  have HB := hide hB
  clear hc hb hB
  have h15 : (xs.length : Int) ≤ 1500 := by omega
  go_enter_defers Try.func49, Try.ntmps49
  go_wp2
  go_loopg [12] xs.length (fun g i wr => ∃ k : Nat, k ≤ xs.length ∧ g = xs.length - k ∧ i = .int .i64 k ∧ ∃ v L f o, toldRel (winTo (deepAt xs need) k) k L f o ∧ WBox A0.heap.size wr v L f o ∧ Below A0.heap.size A0 wr)
  case atStart => exact ⟨0, Nat.zero_le _, rfl, rfl, _, _, _, _, ⟨rfl, rfl⟩, unhide HB, unhide HS⟩
  case round =>
    obtain ⟨k, hk, rfl, rfl, v, L, f, o, hR, hX, hS⟩ := hrel
    clear HB HS
    have hLl : L.length ≤ 1500 := by have := hR.len; have := (winTo_inv (deepAt xs need) k).1; omega
    have HR := hide hR
    have HX := hide hX
    have HS := hide hS
    clear hR hX hS
    by_cases hkn : k < xs.length
    · obtain ⟨b, p, rfl, hcell⟩ := unhide HC k hkn
      have g0 := ((unhide HS).cell (lt_of_cell hcell)).trans hcell
      have ES : Hid (winTo (deepAt xs need) (k + 1) = (winTo (deepAt xs need) k).step k (geF (xs.getD k 0) need)) := rfl
      have hki : (k : Int) < xs.length := by omega
      clear hcell
      generalize xs.getD k 0 = x at *
      have HRd := hide (unhide HR).deep
      have HRn := hide (unhide HR).not
      clear HR
      generalize winTo (deepAt xs need) k = s at *
      cases hge : geF x need with
      | true =>
        rw [hge] at ES
        rw [← unhide ES] at HRd
        unfold geF at hge
        clear HRn ES
        go_wp2_with fail
        refine (begin_any _ _ v L f o k (unhide HX)).mono ?_
        rintro e w1 ⟨rfl, hx, hb⟩
        have HX1 := hide hx
        have HS1 := hide (Below.trans (unhide HS) hb)
        clear hx hb HX HS
        go_wp2
        go_roundg (xs.length - (k + 1))
        case measure => omega
        case rel => exact ⟨k + 1, by omega, rfl, by go_num, _, _, _, _, unhide HRd, unhide HX1, unhide HS1⟩
      | false =>
        rw [hge] at ES
        rw [← unhide ES] at HRn
        unfold geF at hge
        clear HRd ES
        go_wp2_with fail
        refine (close_any _ _ v L f o k (unhide HX) hLl (by omega) (by omega)).mono ?_
        rintro e w1 ⟨rfl, ⟨v1, hx⟩, hb⟩
        have HX1 := hide hx
        have HS1 := hide (Below.trans (unhide HS) hb)
        clear hx hb HX HS
        go_wp2
        go_roundg (xs.length - (k + 1))
        case measure => omega
        case rel => exact ⟨k + 1, by omega, rfl, by go_num, _, _, _, _, unhide HRn, unhide HX1, unhide HS1⟩
    · have hkk : k = xs.length := by omega
      subst hkk
      go_wp2
      refine leaves_cons (f := 68) (args := #[.pointer (some ⟨A0.heap.size, 0, none⟩), .int .i64 (xs.length : Int)]) (by simp) (by simp [go_sem]) ?_
      refine (close_deferred _ _ v L f o xs.length .returning (unhide HX) hLl (by omega) (by omega)).mono ?_
      rintro e u' w1 ⟨rfl, rfl, ⟨v1, hx⟩, hb⟩
      rw [← (unhide HR).2] at hx
      exact ⟨_, results_none rfl _ _ _, rfl, ⟨v1, f, hx⟩, Below.trans (unhide HS) hb⟩

set_option maxRecDepth 10000 in
set_option maxHeartbeats 4000000 in
theorem implWindowsOf_any (v : Value) (xs : List Nat) (need : Nat) (w : World) (h : FlIn w v xs) :
    Calls Try.prog 13 #[v, .float .f64 need] w fun e w' => ∃ a n cp, e = .returned (.slice a n cp) ∧ OwnWi w.heap.size w' (.slice a n cp) (windowsOf xs need) ∧ Below w.heap.size w w' := by
  have HV := hide h
  obtain ⟨ao, cap, rfl, hl, hm, hc⟩ := h
  unfold maxLen at hm
  clear hc
  by_cases h1500 : xs.length ≤ 1500
  · have HD : Hid (windowsOf xs need = (winTo (deepAt xs need) xs.length).L) := by show _ = _; rw [windowsOf, if_pos h1500]
    have h15 : (xs.length : Int) ≤ 1500 := by omega
    have HB0 := hide (WBox.new w)
    have A := Below.alloc1 w (.cells #[.slice none 0 0, .int .i64 0, .bool false] 78)
    have HGT := hide (goThrough_any _ xs need w _ (unhide HV) h1500 A (unhide HB0))
    clear A HB0 HV
    go_enter Try.func13, Try.ntmps13
    go_wp2_with fail
    refine (unhide HGT).mono ?_
    rintro e w1 ⟨rfl, ⟨v1, f1, hx⟩, hb⟩
    have c0 := hx.box.cell (i := 0) rfl
    obtain ⟨a1, n1, cp1, ev, ho⟩ := hx.told
    subst ev
    rw [← unhide HD] at ho
    have HO := hide ho
    have HW := hide hb
    clear hx ho hb HGT
    go_wp2
    go_ret
    exact ⟨_, _, _, rfl, unhide HO, unhide HW⟩
  · have HD : Hid (windowsOf xs need = []) := by show _ = _; rw [windowsOf, if_neg h1500]
    have h15 : (1500 : Int) < xs.length := by omega
    have AW := hide (Below.alloc1 w (.cells #[.slice none 0 0, .int .i64 0, .bool false] 78))
    go_enter Try.func13, Try.ntmps13
    go_wp2
    go_ret
    exact ⟨_, _, _, rfl, by rw [unhide HD]; exact ⟨none, 0, rfl, Nat.le_refl _, Nat.zero_le _, fun h => absurd rfl h⟩, by first | exact Below.refl _ _ | exact unhide AW⟩

end Go.Proofs.Ytglehiakikhlaaa
