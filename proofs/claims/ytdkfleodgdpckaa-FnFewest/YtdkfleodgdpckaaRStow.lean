/- Records of Stow (ints and texts): words; contracts of the laws' own szStow, szStowS, toStow, toStowS, eqStow, eqStowS, markStowS, heldStowS. Written by wip/mkrecm.py. -/
import Derived.Test.YtdkfleodgdpckaaWalkF
import Derived.Test.YtdkfleodgdpckaaMrA
import Derived.Test.YtdkfleodgdpckaaMtA
import Derived.Test.YtdkfleodgdpckaaExactKit
import Derived.Test.YtdkfleodgdpckaaRBox
import Derived.Test.YtdkfleodgdpckaaFlatX
namespace Go.Proofs.Ytdkfleodgdpckaa
open Go.RowKit

abbrev StowT := ByteArray × Int × Int × Bool × Int × Int × Int × Int × Int
def eStow (x : StowT) : Nat → Value
  | 0 => .string x.1
  | 1 => .int .i64 x.2.1
  | 2 => .int .i64 x.2.2.1
  | 3 => .bool x.2.2.2.1
  | 4 => .int .i64 x.2.2.2.2.1
  | 5 => .int .i64 x.2.2.2.2.2.1
  | 6 => .int .i64 x.2.2.2.2.2.2.1
  | 7 => .int .i64 x.2.2.2.2.2.2.2.1
  | _ => .int .i64 x.2.2.2.2.2.2.2.2
def vStow (x0 : ByteArray) (x1 : Int) (x2 : Int) (x3 : Bool) (x4 : Int) (x5 : Int) (x6 : Int) (x7 : Int) (x8 : Int) : Value := .agg #[.string x0, .int .i64 x1, .int .i64 x2, .bool x3, .int .i64 x4, .int .i64 x5, .int .i64 x6, .int .i64 x7, .int .i64 x8]
abbrev RStow := RecsIn 9 eStow
theorem recStowAt {w : World} {ao : Option Addr} {L : List StowT} {k : Nat} (h : ∀ i, i < L.length → ∃ b o, ao = some ⟨b, o, none⟩ ∧ ∀ j, j < 9 → w.cell? ⟨b, o + (i * 9 + j), none⟩ = some (eStow (L.getD i default) j)) (hk : k < L.length) :
    ∃ b o x0 x1 x2 x3 x4 x5 x6 x7 x8, ao = some ⟨b, o, none⟩ ∧ w.cell? ⟨b, o + k * 9, none⟩ = some (.string x0) ∧ w.cell? ⟨b, o + k * 9 + 1, none⟩ = some (.int .i64 x1) ∧ w.cell? ⟨b, o + k * 9 + 2, none⟩ = some (.int .i64 x2) ∧ w.cell? ⟨b, o + k * 9 + 3, none⟩ = some (.bool x3) ∧ w.cell? ⟨b, o + k * 9 + 4, none⟩ = some (.int .i64 x4) ∧ w.cell? ⟨b, o + k * 9 + 5, none⟩ = some (.int .i64 x5) ∧ w.cell? ⟨b, o + k * 9 + 6, none⟩ = some (.int .i64 x6) ∧ w.cell? ⟨b, o + k * 9 + 7, none⟩ = some (.int .i64 x7) ∧ w.cell? ⟨b, o + k * 9 + 8, none⟩ = some (.int .i64 x8) ∧ Hid (L.getD k default = (x0, x1, x2, x3, x4, x5, x6, x7, x8)) := by
  obtain ⟨b, o, e, hc⟩ := h k hk
  exact ⟨b, o, _, _, _, _, _, _, _, _, _, e, hc 0 (by omega), hc 1 (by omega), hc 2 (by omega), hc 3 (by omega), hc 4 (by omega), hc 5 (by omega), hc 6 (by omega), hc 7 (by omega), hc 8 (by omega), rfl⟩
theorem Try.infoStow : (Try.prog.info? 44).map (fun i => (i.zero, i.size, i.bytes)) = some (some (vStow ⟨#[]⟩ 0 0 false 0 0 0 0 0), 9, 80) := by kernel_rfl

def txtStow (x : StowT) : ByteArray := x.1
set_option maxHeartbeats 400000 in
theorem szStow_any (x0 : ByteArray) (x1 : Int) (x2 : Int) (x3 : Bool) (x4 : Int) (x5 : Int) (x6 : Int) (x7 : Int) (x8 : Int) (left : Int) (w : World) (h0 : 0 ≤ left) (h1 : left ≤ 1048576) (ht : x0.size ≤ maxLen) :
    Calls Try.prog 87 #[vStow x0 x1 x2 x3 x4 x5 x6 x7 x8, .int .i64 left] w fun e w' => ∃ r, e = .returned (.int .i64 r) ∧ -1 ≤ r ∧ r ≤ 1048576 ∧ Below w.heap.size w w' := by
  have HZ := hide fun V => szBox_any x0 x1 x2 x3 x4 x5 left V h0 h1 ht
  unfold vBox at HZ
  unfold vStow
  clear ht
  go_enter Try.func87, Try.ntmps87
  go_wp2_with fail
  refine (unhide HZ _).mono ?_
  rintro e w1 ⟨r, rfl, hr0, hr1, hb⟩
  have HW := hide (Below.step (Below.alloc1 _ _) hb)
  clear hb HZ
  by_cases hr : r < 0
  · go_wp2
    go_ret
    exact ⟨_, rfl, by omega, by omega, unhide HW⟩
  · go_wp2
    go_ret
    exact ⟨_, rfl, by omega, by omega, unhide HW⟩

set_option maxHeartbeats 800000 in
theorem szStowS_any (v : Value) (L : List StowT) (left : Int) (w : World) (h : RStow w v L) (hT : ∀ i, i < L.length → (txtStow (L.getD i default)).size ≤ maxLen) (h0 : 0 ≤ left) (h1 : left ≤ 1048576) :
    Calls Try.prog 30 #[v, .int .i64 left] w fun e w' => ∃ r, e = .returned (.int .i64 r) ∧ SizedL L.length r ∧ Below w.heap.size w w' := by
  obtain ⟨ao, cap, rfl, hl, hm, hc⟩ := h
  unfold maxLen at hm
  have HC := hide hc
  have HTX := hide hT
  clear hc hT
  by_cases hlt : left < L.length
  · go_enter Try.func30, Try.ntmps30
    go_wp2
    go_ret
    exact ⟨_, rfl, ⟨by omega, by omega, fun h => by omega⟩, Below.refl _ _⟩
  · have hL : L.length ≤ 1048576 := by omega
    go_enter Try.func30, Try.ntmps30
    go_wp2
    go_loopg [1, 5] L.length (fun g lv iv wr => ∃ k : Nat, k ≤ L.length ∧ g = L.length - k ∧ iv = .int .i64 k ∧ (∃ l : Int, lv = .int .i64 l ∧ 0 ≤ l ∧ l ≤ 1048576) ∧ Below w.heap.size w wr)
    case atStart => exact ⟨0, Nat.zero_le _, rfl, rfl, ⟨_, rfl, by omega, by omega⟩, Below.refl _ _⟩
    case round =>
      obtain ⟨k, hk, rfl, rfl, ⟨l, rfl, hl0, hl1⟩, hW⟩ := hrel
      by_cases hkn : k < L.length
      · obtain ⟨b, o, x0, x1, x2, x3, x4, x5, x6, x7, x8, rfl, hc0, hc1, hc2, hc3, hc4, hc5, hc6, hc7, hc8, EX⟩ := recStowAt (unhide HC) hkn
        have hts := unhide HTX k hkn
        rw [unhide EX] at hts
        have g0 := wcell3 hc0 hW
        have g1 := wcell3 hc1 hW
        have g2 := wcell3 hc2 hW
        have g3 := wcell3 hc3 hW
        have g4 := wcell3 hc4 hW
        have g5 := wcell3 hc5 hW
        have g6 := wcell3 hc6 hW
        have g7 := wcell3 hc7 hW
        have g8 := wcell3 hc8 hW
        have HW := hide hW
        have HSZ := hide fun V => szStow_any x0 x1 x2 x3 x4 x5 x6 x7 x8 l V hl0 hl1 hts
        unfold vStow at HSZ
        have hki : (k : Int) < L.length := by omega
        clear hc0 hc1 hc2 hc3 hc4 hc5 hc6 hc7 hc8 hW hts
        go_wp2_with fail
        refine (unhide HSZ _).mono ?_
        rintro e w1 ⟨r, rfl, hr0, hr1, hb⟩
        have HW1 := hide (Below.step (unhide HW) hb)
        clear hb HSZ HW
        by_cases hr : r < 0
        · go_wp2
          go_ret
          exact ⟨_, rfl, ⟨by omega, by omega, fun h => by omega⟩, unhide HW1⟩
        · go_wp2
          go_roundg (L.length - (k + 1))
          case measure => omega
          case rel => exact ⟨k + 1, by omega, rfl, by go_num, ⟨r, rfl, by omega, by omega⟩, unhide HW1⟩
      · have hki : ¬ (k : Int) < L.length := by omega
        go_wp2
        go_ret
        exact ⟨_, rfl, ⟨by omega, by omega, fun _ => hL⟩, hW⟩

set_option maxHeartbeats 800000 in
theorem toStow_any (x0 : ByteArray) (x1 : Int) (x2 : Int) (x3 : Bool) (x4 : Int) (x5 : Int) (x6 : Int) (x7 : Int) (x8 : Int) (w : World) :
    Calls Try.prog 88 #[vStow x0 x1 x2 x3 x4 x5 x6 x7 x8] w fun e w' => e = .returned (vStow x0 x1 x2 x3 x4 x5 x6 x7 x8) ∧ Below w.heap.size w w' := by
  have HB := hide fun V => toBox_any x0 x1 x2 x3 x4 x5 V
  have HS := hide fun V => toSpot_any x6 x7 x8 V
  unfold vBox at HB
  unfold v3 at HS
  unfold vStow
  obtain ⟨V0, eV⟩ : ∃ V, V = ((w.alloc (.cells #[.string x0, .int .i64 x1, .int .i64 x2, .bool x3, .int .i64 x4, .int .i64 x5, .int .i64 x6, .int .i64 x7, .int .i64 x8] 118)).alloc (.cells #[.string ⟨#[]⟩, .int .i64 0, .int .i64 0, .bool false, .int .i64 0, .int .i64 0, .int .i64 0, .int .i64 0, .int .i64 0] 44)).alloc (.cells #[.string ⟨#[]⟩, .int .i64 0, .int .i64 0, .bool false, .int .i64 0, .int .i64 0, .int .i64 0, .int .i64 0, .int .i64 0] 44) := ⟨_, rfl⟩
  have HW : Hid (Below w.heap.size w V0) := by show Below _ _ _; rw [eV]; exact Below.step (Below.step (Below.alloc1 _ _) (Below.alloc1 _ _)) (Below.alloc1 _ _)
  have HA : Hid (OwnV V0 w.heap.size [.string x0, .int .i64 x1, .int .i64 x2, .bool x3, .int .i64 x4, .int .i64 x5, .int .i64 x6, .int .i64 x7, .int .i64 x8]) := by
    show OwnV _ _ _
    rw [eV]
    exact OwnV.alloc (OwnV.alloc (ownV_alloc w #[.string x0, .int .i64 x1, .int .i64 x2, .bool x3, .int .i64 x4, .int .i64 x5, .int .i64 x6, .int .i64 x7, .int .i64 x8] 118) _) _
  have HP : Hid (OwnV V0 (w.heap.size + 1) [.string ⟨#[]⟩, .int .i64 0, .int .i64 0, .bool false, .int .i64 0, .int .i64 0, .int .i64 0, .int .i64 0, .int .i64 0]) := by
    show OwnV _ _ _
    rw [eV]
    have h := ownV_alloc (w.alloc (.cells #[.string x0, .int .i64 x1, .int .i64 x2, .bool x3, .int .i64 x4, .int .i64 x5, .int .i64 x6, .int .i64 x7, .int .i64 x8] 118)) #[.string ⟨#[]⟩, .int .i64 0, .int .i64 0, .bool false, .int .i64 0, .int .i64 0, .int .i64 0, .int .i64 0, .int .i64 0] 44
    simp only [World.size_alloc] at h
    exact OwnV.alloc h _
  have HO : Hid (OwnV V0 (w.heap.size + 1 + 1) [.string ⟨#[]⟩, .int .i64 0, .int .i64 0, .bool false, .int .i64 0, .int .i64 0, .int .i64 0, .int .i64 0, .int .i64 0]) := by
    show OwnV _ _ _
    rw [eV]
    have h := ownV_alloc ((w.alloc (.cells #[.string x0, .int .i64 x1, .int .i64 x2, .bool x3, .int .i64 x4, .int .i64 x5, .int .i64 x6, .int .i64 x7, .int .i64 x8] 118)).alloc (.cells #[.string ⟨#[]⟩, .int .i64 0, .int .i64 0, .bool false, .int .i64 0, .int .i64 0, .int .i64 0, .int .i64 0, .int .i64 0] 44)) #[.string ⟨#[]⟩, .int .i64 0, .int .i64 0, .bool false, .int .i64 0, .int .i64 0, .int .i64 0, .int .i64 0, .int .i64 0] 44
    simp only [World.size_alloc] at h
    exact h
  go_enter Try.func88, Try.ntmps88
  go_wp2_with fail
  rw [← eV]
  clear eV
  refine (unhide HB _).mono ?_
  rintro e w1 ⟨rfl, hb⟩
  replace HW := hide (Below.step (unhide HW) hb)
  replace HA := hide ((unhide HA).step hb)
  replace HP := hide ((unhide HP).step hb)
  replace HO := hide ((unhide HO).step hb)
  clear hb HB
  obtain ⟨ga, ega⟩ : ∃ g, g = w.heap.size := ⟨_, rfl⟩
  obtain ⟨gp, egp⟩ : ∃ g, g = ga + 1 := ⟨_, rfl⟩
  obtain ⟨go, ego⟩ : ∃ g, g = gp + 1 := ⟨_, rfl⟩
  rw [← ega] at HA HP HO ⊢
  rw [← egp] at HP HO ⊢
  rw [← ego] at HO ⊢
  have a6 := (unhide HA).cell (i := 6) rfl
  have a7 := (unhide HA).cell (i := 7) rfl
  have a8 := (unhide HA).cell (i := 8) rfl
  have fo := (unhide HO).frozen
  have o0 := (unhide HO).cell (i := 0) rfl
  have o1 := (unhide HO).cell (i := 1) rfl
  have o2 := (unhide HO).cell (i := 2) rfl
  have o3 := (unhide HO).cell (i := 3) rfl
  have o4 := (unhide HO).cell (i := 4) rfl
  have o5 := (unhide HO).cell (i := 5) rfl
  have hn1 : ga ≠ go := by omega
  have hn2 : gp ≠ go := by omega
  have hlo : w.heap.size ≤ go := by omega
  have hlp : w.heap.size ≤ gp := by omega
  clear ega egp ego
  obtain ⟨V1, eV1⟩ : ∃ V, V = ((((((w1.setCell ⟨go, 0, none⟩ (.string x0)).setCell ⟨go, 1, none⟩ (.int .i64 x1)).setCell ⟨go, 2, none⟩ (.int .i64 x2)).setCell ⟨go, 3, none⟩ (.bool x3)).setCell ⟨go, 4, none⟩ (.int .i64 x4)).setCell ⟨go, 5, none⟩ (.int .i64 x5)) := ⟨_, rfl⟩
  have HK1 : Hid (Kept (fun b => b = go) w1 V1) := by show Kept _ _ _; rw [eV1]; exact (((((((Kept.refl (fun b => b = go) w1).setCell (p := ⟨go, 0, none⟩) rfl _).setCell (p := ⟨go, 1, none⟩) rfl _).setCell (p := ⟨go, 2, none⟩) rfl _).setCell (p := ⟨go, 3, none⟩) rfl _).setCell (p := ⟨go, 4, none⟩) rfl _).setCell (p := ⟨go, 5, none⟩) rfl _)
  have HO1 : Hid (OwnV V1 go [.string x0, .int .i64 x1, .int .i64 x2, .bool x3, .int .i64 x4, .int .i64 x5, .int .i64 0, .int .i64 0, .int .i64 0]) := by
    show OwnV _ _ _
    rw [eV1]
    exact (((((((unhide HO).set 0 (.string x0) (by simp)).set 1 (.int .i64 x1) (by simp)).set 2 (.int .i64 x2) (by simp)).set 3 (.bool x3) (by simp)).set 4 (.int .i64 x4) (by simp)).set 5 (.int .i64 x5) (by simp))
  replace HA := hide ((unhide HA).kept (unhide HK1) hn1)
  replace HP := hide ((unhide HP).kept (unhide HK1) hn2)
  replace HW := hide (Below.trans (unhide HW) ((unhide HK1).below (unhide HW).size (fun k h => by omega)))
  clear HK1 HO
  go_wp2_with fail
  rw [← eV1]
  clear eV1
  refine (unhide HS _).mono ?_
  rintro e w2 ⟨rfl, hb⟩
  replace HW := hide (Below.trans (unhide HW) (hb.mono (unhide HW).size))
  replace HP := hide ((unhide HP).step hb)
  have HO := hide ((unhide HO1).step hb)
  clear hb HS HO1 a6 a7 a8 fo HA o0 o1 o2 o3 o4 o5
  have fo := (unhide HO).frozen
  have fp := (unhide HP).frozen
  have o0 := (unhide HO).cell (i := 0) rfl
  have o1 := (unhide HO).cell (i := 1) rfl
  have o2 := (unhide HO).cell (i := 2) rfl
  have o3 := (unhide HO).cell (i := 3) rfl
  have o4 := (unhide HO).cell (i := 4) rfl
  have o5 := (unhide HO).cell (i := 5) rfl
  have o6 := (unhide HO).cell (i := 6) rfl
  have o7 := (unhide HO).cell (i := 7) rfl
  have o8 := (unhide HO).cell (i := 8) rfl
  have p0 := (unhide HP).cell (i := 0) rfl
  have p1 := (unhide HP).cell (i := 1) rfl
  have p2 := (unhide HP).cell (i := 2) rfl
  have p3 := (unhide HP).cell (i := 3) rfl
  have p4 := (unhide HP).cell (i := 4) rfl
  have p5 := (unhide HP).cell (i := 5) rfl
  have p6 := (unhide HP).cell (i := 6) rfl
  have p7 := (unhide HP).cell (i := 7) rfl
  have p8 := (unhide HP).cell (i := 8) rfl
  go_wp2
  refine bodyPost_ret (v := vStow x0 x1 x2 x3 x4 x5 x6 x7 x8) (by simp [results, Try.results88, go_sem, vStow, p0, p1, p2, p3, p4, p5, p6, p7, p8]) rfl ⟨rfl, ?_⟩
  exact (((((((((((((unhide HW).setCell hlo _).setCell hlo _).setCell hlo _).setCell hlp _).setCell hlp _).setCell hlp _).setCell hlp _).setCell hlp _).setCell hlp _).setCell hlp _).setCell hlp _).setCell hlp _)

set_option maxHeartbeats 800000 in
theorem toStowS_any (v : Value) (L : List StowT) (w : World) (h : RStow w v L) (hs : L.length ≤ 1048576) :
    Calls Try.prog 31 #[v] w fun e w' => ∃ g, e = .returned (.slice (some ⟨g, 0, none⟩) L.length L.length) ∧ w.heap.size ≤ g ∧ OwnV w' g (recCells 9 eStow L) ∧ Below w.heap.size w w' := by
  obtain ⟨ao, cap, rfl, hl, hm, hc⟩ := h
  clear hl hm
  have HC := hide hc
  clear hc
  have hmk := run_make_recs (P := Try.prog) 33 44 _ 9 80 Try.underlying33 Try.infoStow .i64 .i64 L.length (by omega) (by omega)
  go_enter Try.func31, Try.ntmps31
  go_wp2
  clear hmk
  go_loopg [4] L.length (fun g i wr => ∃ k : Nat, k ≤ L.length ∧ g = L.length - k ∧ i = .int .i64 k ∧ FillC 9 eStow w wr L (k * 9))
  case atStart => exact ⟨0, Nat.zero_le _, rfl, rfl, by rw [Nat.zero_mul]; exact FillC.start w L _ _⟩
  case round =>
    obtain ⟨k, hk, rfl, rfl, hF⟩ := hrel
    by_cases hkn : k < L.length
    · obtain ⟨b, o, x0, x1, x2, x3, x4, x5, x6, x7, x8, rfl, hc0, hc1, hc2, hc3, hc4, hc5, hc6, hc7, hc8, EX⟩ := recStowAt (unhide HC) hkn
      have g0 := wcell3 hc0 hF.below
      have g1 := wcell3 hc1 hF.below
      have g2 := wcell3 hc2 hF.below
      have g3 := wcell3 hc3 hF.below
      have g4 := wcell3 hc4 hF.below
      have g5 := wcell3 hc5 hF.below
      have g6 := wcell3 hc6 hF.below
      have g7 := wcell3 hc7 hF.below
      have g8 := wcell3 hc8 hF.below
      have HF := hide hF
      clear hc0 hc1 hc2 hc3 hc4 hc5 hc6 hc7 hc8 hF
      have HT := hide fun V => toStow_any x0 x1 x2 x3 x4 x5 x6 x7 x8 V
      unfold vStow at HT
      go_wp2_with fail
      refine (unhide HT _).mono ?_
      rintro e w1 ⟨rfl, hb⟩
      have hF1 := (unhide HF).grow hb
      have hf := hF1.frozen
      obtain ⟨u0', hu0⟩ := hF1.cell (q := k * 9) (by omega)
      obtain ⟨u1', hu1⟩ := hF1.cell (q := k * 9 + 1) (by omega)
      obtain ⟨u2', hu2⟩ := hF1.cell (q := k * 9 + 2) (by omega)
      obtain ⟨u3', hu3⟩ := hF1.cell (q := k * 9 + 3) (by omega)
      obtain ⟨u4', hu4⟩ := hF1.cell (q := k * 9 + 4) (by omega)
      obtain ⟨u5', hu5⟩ := hF1.cell (q := k * 9 + 5) (by omega)
      obtain ⟨u6', hu6⟩ := hF1.cell (q := k * 9 + 6) (by omega)
      obtain ⟨u7', hu7⟩ := hF1.cell (q := k * 9 + 7) (by omega)
      obtain ⟨u8', hu8⟩ := hF1.cell (q := k * 9 + 8) (by omega)
      have HF1 := hide hF1
      clear hb HF hF1 HT
      go_wp2
      go_roundg (L.length - (k + 1))
      case measure => omega
      case rel =>
        refine ⟨k + 1, by omega, rfl, by go_num, ?_⟩
        have s0 := (unhide HF1).set (v := .string x0) (by omega) (by rw [show (k * 9) / 9 = k by omega, show (k * 9) % 9 = 0 by omega, unhide EX]; rfl)
        have s1 := s0.set (v := .int .i64 x1) (by omega) (by rw [show (k * 9 + 1) / 9 = k by omega, show (k * 9 + 1) % 9 = 1 by omega, unhide EX]; rfl)
        have s2 := s1.set (v := .int .i64 x2) (by omega) (by rw [show (k * 9 + 2) / 9 = k by omega, show (k * 9 + 2) % 9 = 2 by omega, unhide EX]; rfl)
        have s3 := s2.set (v := .bool x3) (by omega) (by rw [show (k * 9 + 3) / 9 = k by omega, show (k * 9 + 3) % 9 = 3 by omega, unhide EX]; rfl)
        have s4 := s3.set (v := .int .i64 x4) (by omega) (by rw [show (k * 9 + 4) / 9 = k by omega, show (k * 9 + 4) % 9 = 4 by omega, unhide EX]; rfl)
        have s5 := s4.set (v := .int .i64 x5) (by omega) (by rw [show (k * 9 + 5) / 9 = k by omega, show (k * 9 + 5) % 9 = 5 by omega, unhide EX]; rfl)
        have s6 := s5.set (v := .int .i64 x6) (by omega) (by rw [show (k * 9 + 6) / 9 = k by omega, show (k * 9 + 6) % 9 = 6 by omega, unhide EX]; rfl)
        have s7 := s6.set (v := .int .i64 x7) (by omega) (by rw [show (k * 9 + 7) / 9 = k by omega, show (k * 9 + 7) % 9 = 7 by omega, unhide EX]; rfl)
        have s8 := s7.set (v := .int .i64 x8) (by omega) (by rw [show (k * 9 + 8) / 9 = k by omega, show (k * 9 + 8) % 9 = 8 by omega, unhide EX]; rfl)
        rw [show (k + 1) * 9 = k * 9 + 9 by omega]
        exact s8
    · have hkk : k = L.length := by omega
      subst hkk
      go_wp2
      go_ret
      exact ⟨_, rfl, Nat.le_refl _, hF.done, hF.below⟩

set_option maxHeartbeats 800000 in
theorem eqStow_any (x0 : ByteArray) (x1 : Int) (x2 : Int) (x3 : Bool) (x4 : Int) (x5 : Int) (x6 : Int) (x7 : Int) (x8 : Int) (w : World) :
    Calls Try.prog 89 #[vStow x0 x1 x2 x3 x4 x5 x6 x7 x8, vStow x0 x1 x2 x3 x4 x5 x6 x7 x8] w fun e w' => e = .returned (.bool true) ∧ Below w.heap.size w w' := by
  have HB := hide fun V => eqBox_any x0 x1 x2 x3 x4 x5 V
  have HS := hide fun V => eqSpot_any x6 x7 x8 V
  unfold vBox at HB
  unfold v3 at HS
  unfold vStow
  obtain ⟨V0, eV⟩ : ∃ V, V = (w.alloc (.cells #[.string x0, .int .i64 x1, .int .i64 x2, .bool x3, .int .i64 x4, .int .i64 x5, .int .i64 x6, .int .i64 x7, .int .i64 x8] 44)).alloc (.cells #[.string x0, .int .i64 x1, .int .i64 x2, .bool x3, .int .i64 x4, .int .i64 x5, .int .i64 x6, .int .i64 x7, .int .i64 x8] 44) := ⟨_, rfl⟩
  have HW : Hid (Below w.heap.size w V0) := by show Below _ _ _; rw [eV]; exact Below.step (Below.alloc1 _ _) (Below.alloc1 _ _)
  have HA : Hid (OwnV V0 w.heap.size [.string x0, .int .i64 x1, .int .i64 x2, .bool x3, .int .i64 x4, .int .i64 x5, .int .i64 x6, .int .i64 x7, .int .i64 x8]) := by
    show OwnV _ _ _
    rw [eV]
    exact OwnV.alloc (ownV_alloc w #[.string x0, .int .i64 x1, .int .i64 x2, .bool x3, .int .i64 x4, .int .i64 x5, .int .i64 x6, .int .i64 x7, .int .i64 x8] 44) _
  have HO : Hid (OwnV V0 (w.heap.size + 1) [.string x0, .int .i64 x1, .int .i64 x2, .bool x3, .int .i64 x4, .int .i64 x5, .int .i64 x6, .int .i64 x7, .int .i64 x8]) := by
    show OwnV _ _ _
    rw [eV]
    have h := ownV_alloc (w.alloc (.cells #[.string x0, .int .i64 x1, .int .i64 x2, .bool x3, .int .i64 x4, .int .i64 x5, .int .i64 x6, .int .i64 x7, .int .i64 x8] 44)) #[.string x0, .int .i64 x1, .int .i64 x2, .bool x3, .int .i64 x4, .int .i64 x5, .int .i64 x6, .int .i64 x7, .int .i64 x8] 44
    simp only [World.size_alloc] at h
    exact h
  go_enter Try.func89, Try.ntmps89
  go_wp2_with fail
  rw [← eV]
  clear eV
  refine (unhide HB _).mono ?_
  rintro e w1 ⟨rfl, hb⟩
  replace HW := hide (Below.step (unhide HW) hb)
  replace HA := hide ((unhide HA).step hb)
  replace HO := hide ((unhide HO).step hb)
  clear hb HB
  have a6 := (unhide HA).cell (i := 6) rfl
  have a7 := (unhide HA).cell (i := 7) rfl
  have a8 := (unhide HA).cell (i := 8) rfl
  have o6 := (unhide HO).cell (i := 6) rfl
  have o7 := (unhide HO).cell (i := 7) rfl
  have o8 := (unhide HO).cell (i := 8) rfl
  go_wp2_with fail
  refine (unhide HS _).mono ?_
  rintro e w2 ⟨rfl, hb⟩
  replace HW := hide (Below.step (unhide HW) hb)
  clear hb HS HA HO a6 a7 a8 o6 o7 o8
  go_wp2
  go_ret
  exact ⟨rfl, unhide HW⟩

set_option maxHeartbeats 800000 in
theorem eqStowS_any (v v' : Value) (L : List StowT) (w : World) (h : RStow w v L) (h' : RStow w v' L) :
    Calls Try.prog 32 #[v, v'] w fun e w' => e = .returned (.bool true) ∧ Below w.heap.size w w' := by
  obtain ⟨ao, cap, rfl, hl, hm, hc⟩ := h
  obtain ⟨ao', cap', rfl, _, _, hc'⟩ := h'
  unfold maxLen at hm
  have HC := hide hc
  have HC' := hide hc'
  clear hc hc'
  go_enter Try.func32, Try.ntmps32
  go_wp2
  go_loopg [5] L.length (fun g i wr => Below w.heap.size w wr ∧ ∃ k : Nat, k ≤ L.length ∧ g = L.length - k ∧ i = .int .i64 k)
  case atStart => exact ⟨Below.refl _ _, 0, Nat.zero_le _, rfl, rfl⟩
  case round =>
    obtain ⟨hW, k, hk, rfl, rfl⟩ := hrel
    by_cases hkn : k < L.length
    · obtain ⟨b, o, x0, x1, x2, x3, x4, x5, x6, x7, x8, rfl, hc0, hc1, hc2, hc3, hc4, hc5, hc6, hc7, hc8, EX⟩ := recStowAt (unhide HC) hkn
      obtain ⟨b', o', x0', x1', x2', x3', x4', x5', x6', x7', x8', rfl, hd0, hd1, hd2, hd3, hd4, hd5, hd6, hd7, hd8, EX'⟩ := recStowAt (unhide HC') hkn
      have eX := (unhide EX).symm.trans (unhide EX')
      simp only [Prod.mk.injEq] at eX
      obtain ⟨rfl, rfl, rfl, rfl, rfl, rfl, rfl, rfl, rfl⟩ := eX
      have r0 := fun x' : Gr wr => gr_cell (wcell3 hc0 hW) x'
      have r0' := fun x' : Gr wr => gr_cell (wcell3 hd0 hW) x'
      have r1 := fun x' : Gr wr => gr_cell (wcell3 hc1 hW) x'
      have r1' := fun x' : Gr wr => gr_cell (wcell3 hd1 hW) x'
      have r2 := fun x' : Gr wr => gr_cell (wcell3 hc2 hW) x'
      have r2' := fun x' : Gr wr => gr_cell (wcell3 hd2 hW) x'
      have r3 := fun x' : Gr wr => gr_cell (wcell3 hc3 hW) x'
      have r3' := fun x' : Gr wr => gr_cell (wcell3 hd3 hW) x'
      have r4 := fun x' : Gr wr => gr_cell (wcell3 hc4 hW) x'
      have r4' := fun x' : Gr wr => gr_cell (wcell3 hd4 hW) x'
      have r5 := fun x' : Gr wr => gr_cell (wcell3 hc5 hW) x'
      have r5' := fun x' : Gr wr => gr_cell (wcell3 hd5 hW) x'
      have r6 := fun x' : Gr wr => gr_cell (wcell3 hc6 hW) x'
      have r6' := fun x' : Gr wr => gr_cell (wcell3 hd6 hW) x'
      have r7 := fun x' : Gr wr => gr_cell (wcell3 hc7 hW) x'
      have r7' := fun x' : Gr wr => gr_cell (wcell3 hd7 hW) x'
      have r8 := fun x' : Gr wr => gr_cell (wcell3 hc8 hW) x'
      have r8' := fun x' : Gr wr => gr_cell (wcell3 hd8 hW) x'
      have S1 := hide fun x' : Gr wr => eqStow_any x0 x1 x2 x3 x4 x5 x6 x7 x8 x'.val
      unfold vStow at S1
      have HW := hide hW
      have gsome := gr_some wr
      clear hc0 hc1 hc2 hc3 hc4 hc5 hc6 hc7 hc8 hd0 hd1 hd2 hd3 hd4 hd5 hd6 hd7 hd8 hW
      go_wp2
      refine wp_region_grown (by kernel_rfl) (by kernel_rfl) ?_
      repeat (go_big_quiet_step (fail))
      go_big_quiet_want
      go_big_quiet_op
      go_big_quiet_call (exact calls_grown (unhide S1 _))
      repeat (go_big_quiet_step (fail))
      refine wpQuiet_nil ?_
      intro w1 hw1
      obtain ⟨z', hz⟩ := hw1
      have hb1 : Below wr.heap.size wr w1 := hz ▸ z'.ok
      clear hz gsome
      go_wp2
      go_roundg (L.length - (k + 1))
      case measure => omega
      case rel => exact ⟨Below.step (unhide HW) hb1, k + 1, by omega, rfl, by go_num⟩
    · go_wp2
      go_ret
      exact ⟨rfl, hW⟩

end Go.Proofs.Ytdkfleodgdpckaa
