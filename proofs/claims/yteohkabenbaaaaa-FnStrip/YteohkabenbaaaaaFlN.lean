/- The contract of the specification's Energy. -/
import Derived.Test.YteohkabenbaaaaaFlF
import Derived.Test.YteohkabenbaaaaaFlL
import Derived.BigRegion
namespace Go.Proofs.Yteohkabenbaaaaa
open Go.RowKit

def enStep (wd s : Nat) (p : F2) (h : Nat) : Nat := fop .add .f64 s (fop .mul .f64 (fop .mul .f64 (fop .add .f64 (fop .mul .f64 p.1 p.1) (fop .mul .f64 p.2 p.2)) h) wd)
def enTo (R : List F2) (H : List Nat) (wd : Nat) : Nat → Nat
  | 0 => 0
  | k + 1 => enStep wd (enTo R H wd k) (R.getD k default) (H.getD k 0)
def enOk (R : List F2) (H : List Nat) : Bool := decide (R.length = H.length) && decide (R.length ≤ 60)
def energyOf (R : List F2) (H : List Nat) (wd : Nat) : Nat := if enOk R H = true then enTo R H wd R.length else 0

set_option maxRecDepth 10000 in
set_option maxHeartbeats 4000000 in
theorem specEnergy_any (v v' : Value) (R : List F2) (H : List Nat) (wd : Nat) (w : World) (h : RW w v R) (h' : FlIn w v' H) :
    Calls Try.prog 55 #[v, v', .float .f64 wd] w fun e w' => ∃ r, e = .returned (.tuple #[.float .f64 r, .bool (enOk R H)]) ∧ fsame .f64 r (energyOf R H wd) ∧ Below w.heap.size w w' := by
  obtain ⟨ao, cap, rfl, hl, hm, hc⟩ := h
  obtain ⟨ao', cap', rfl, hl', hm', hc'⟩ := h'
  unfold maxLen at hm hm'
  have HC := hide hc
  have HC' := hide hc'
  clear hc hc'
  cases hok : enOk R H with
  | false =>
    have HF : Hid (energyOf R H wd = 0) := by show _ = _; simp [energyOf, hok]
    by_cases hlen : R.length = H.length
    · have h60 : (60 : Int) < R.length := by simp [enOk, hlen] at hok; omega
      have e1 : ((R.length : Int) != (H.length : Int)) = false := by rw [hlen]; simp
      clear hok hlen
      go_enter Try.func55, Try.ntmps55
      go_wp2
      refine bodyPost_ret (v := .tuple #[.float .f64 0, .bool false]) (by simp [results, Try.results55, go_sem]) rfl ⟨0, rfl, by rw [unhide HF]; exact fsame.refl _ _, Below.refl _ _⟩
    · have e1 : ((R.length : Int) != (H.length : Int)) = true := by simp; omega
      clear hok
      go_enter Try.func55, Try.ntmps55
      go_wp2
      refine bodyPost_ret (v := .tuple #[.float .f64 0, .bool false]) (by simp [results, Try.results55, go_sem]) rfl ⟨0, rfl, by rw [unhide HF]; exact fsame.refl _ _, Below.refl _ _⟩
  | true =>
    have HF : Hid (energyOf R H wd = enTo R H wd R.length) := by show _ = _; rw [energyOf, if_pos hok]
    have hlen : R.length = H.length := by simp [enOk] at hok; exact hok.1
    have h60 : (R.length : Int) ≤ 60 := by simp [enOk] at hok; omega
    have HLN := hide hlen
    have e1 : ((R.length : Int) != (H.length : Int)) = false := by rw [hlen]; simp
    clear hok hlen
    go_enter Try.func55, Try.ntmps55
    go_wp2
    go_loopg [8, 9] R.length (fun g sv i wr => ∃ k : Nat, k ≤ R.length ∧ g = R.length - k ∧ i = .int .i64 k ∧ ∃ s, sv = .float .f64 s ∧ fsame .f64 s (enTo R H wd k) ∧ Hid (Below w.heap.size w wr))
    case atStart => exact ⟨0, Nat.zero_le _, rfl, rfl, 0, rfl, fsame.refl _ _, Below.refl _ _⟩
    case round =>
      obtain ⟨k, hk, rfl, rfl, s, rfl, hs, HW⟩ := hrel
      by_cases hkn : k < R.length
      · obtain ⟨b, o, x, y, rfl, hx, hy, EX⟩ := recWAt (unhide HC) hkn
        obtain ⟨b', o', rfl, hh⟩ := unhide HC' k (by rw [← unhide HLN]; exact hkn)
        have ES : Hid (enTo R H wd (k + 1) = enStep wd (enTo R H wd k) (x, y) (H.getD k 0)) := by show _ = _; rw [enTo, unhide EX]
        have g0 := ((unhide HW).cell (lt_of_cell hx)).trans hx
        have g1 := ((unhide HW).cell (lt_of_cell hy)).trans hy
        have g2 := ((unhide HW).cell (lt_of_cell hh)).trans hh
        have hki : (k : Int) < R.length := by omega
        have hki' : (k : Int) < H.length := by rw [← unhide HLN]; omega
        clear hx hy hh EX
        generalize H.getD k 0 = ht at *
        generalize enTo R H wd k = sk at *
        obtain ⟨r1, n1, hr1, h1⟩ := run_float_any (P := Try.prog) wr.drew .mul (by simp) 30 .f64 x x
        go_wp2
        go_region
        clear hr1
        obtain ⟨V1, e1'⟩ : ∃ z, z = wr.drewN (1 + n1) := ⟨_, rfl⟩
        rw [← e1']
        replace HW : Hid (Below w.heap.size w V1) := by rw [e1']; exact below_drewN (unhide HW) _
        replace g1 : V1.cell? ⟨b, o + k * 2 + 1, none⟩ = some (.float .f64 y) := by rw [e1']; exact g1
        replace g2 : V1.cell? ⟨b', o' + k, none⟩ = some (.float .f64 ht) := by rw [e1']; exact g2
        clear e1' g0
        obtain ⟨r2, n2, hr2, h2⟩ := run_float_any (P := Try.prog) V1.drew .mul (by simp) 30 .f64 y y
        go_wp2
        go_region
        clear hr2
        obtain ⟨V2, e2'⟩ : ∃ z, z = V1.drewN (1 + n2) := ⟨_, rfl⟩
        rw [← e2']
        replace HW : Hid (Below w.heap.size w V2) := by rw [e2']; exact below_drewN (unhide HW) _
        replace g2 : V2.cell? ⟨b', o' + k, none⟩ = some (.float .f64 ht) := by rw [e2']; exact g2
        clear e2' g1
        go_wp2_with (first | (refine wpList_float rfl .add _ _ _ _ rfl rfl .f64 r1 r2 rfl rfl ?_; intro r3 n3 h3) | (refine wpList_float rfl .mul _ _ _ _ rfl rfl .f64 _ ht rfl rfl ?_; intro r4 n4 h4) | (refine wpList_float rfl .mul _ _ _ _ rfl rfl .f64 _ wd rfl rfl ?_; intro r5 n5 h5) | (refine wpList_float rfl .add _ _ _ _ rfl rfl .f64 s _ rfl rfl ?_; intro r6 n6 h6))
        go_roundg (R.length - (k + 1))
        case measure => omega
        case rel => exact ⟨k + 1, by omega, rfl, by go_num, r6, rfl, by rw [unhide ES]; exact fop_to h6 hs (fop_to h5 (fop_to h4 (fop_to h3 h1 h2) (fsame.refl _ _)) (fsame.refl _ _)), below_drewN (unhide HW) _⟩
      · have hkk : k = R.length := by omega
        subst hkk
        go_wp2
        refine bodyPost_ret (v := .tuple #[.float .f64 s, .bool true]) (by simp [results, Try.results55, go_sem]) rfl ⟨s, rfl, by rw [unhide HF]; exact hs, unhide HW⟩

end Go.Proofs.Yteohkabenbaaaaa
