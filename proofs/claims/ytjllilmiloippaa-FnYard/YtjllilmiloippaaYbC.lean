/- The program's blockers. Written by wip/mkybc.py. -/
import Derived.Test.YtjllilmiloippaaYbB
namespace Go.Proofs.Ytjllilmiloippaa
open Go.RowKit

abbrev gndV (H : Int) (g n cap : Nat) : Value := .agg #[.int .i64 H, .slice (some ⟨g, 0, none⟩) n cap]

theorem inW_cons (x : Int) (xs : List Int) : inW (x :: xs) = (if lessB xs x = true then 1 else 0) + inW xs := rfl

set_option maxRecDepth 10000 in
set_option maxHeartbeats 3200000 in
theorem blockers_any (H : Int) (g cap : Nat) (Z : List (Option Addr × Nat)) (P : List (List Int)) (w : World) (h : Gnd w g Z P) (hn : P.length ≤ 12) (hc1 : P.length ≤ cap) (hc2 : cap ≤ maxLen) (hh : ∀ s, s < P.length → (P.getD s []).length ≤ 6) :
    Calls Try.prog 61 #[gndV H g P.length cap] w fun e w' => e = .returned (.int .i64 ((blkP P : Nat) : Int)) ∧ Below w.heap.size w w' := by
  obtain ⟨A, eA⟩ : ∃ A, A = blkP P := ⟨_, rfl⟩
  rw [← eA]
  have EA := hide eA
  clear eA
  have HG := hide h
  have HH := hide hh
  clear h hh
  unfold maxLen at hc2
  unfold gndV
  have HP0 : Hid (blkP (P.take 0) = 0) := by show _ = _; simp [blkP]
  have HPN : Hid (A = blkP (P.take P.length)) := by show _ = _; rw [unhide EA, List.take_length]
  have HBD : Hid (∀ k, k ≤ P.length → blkP (P.take k) ≤ 6 * k) := fun k => by
    induction k with
    | zero => intro _; simp [blkP]
    | succ k ih =>
      intro hk
      have h1 := blkP_take (P := P) (k := k) (by omega)
      have h2 := ih (by omega)
      have h3 := inW_le (P.getD k [])
      have h4 := unhide HH k (by omega)
      omega
  go_enter Try.func61, Try.ntmps61
  go_upto_region 2 with (fail)
  obtain ⟨W, eW⟩ : ∃ W, W = w.alloc (.cells #[.int .i64 H, .slice (some ⟨g, 0, none⟩) P.length cap] 90) := ⟨_, rfl⟩
  have HW : Hid (Below w.heap.size w W) := by rw [eW]; exact Below.alloc1 _ _
  have HB : Hid (OwnV W w.heap.size [.int .i64 H, .slice (some ⟨g, 0, none⟩) P.length cap]) := by rw [eW]; exact ownV_alloc _ _ _
  rw [← eW]
  clear eW
  have b1 := (unhide HB).cell (i := 1) rfl
  go_wp2
  clear b1 HB
  go_loopg [3, 10] P.length (fun gh nv iv wr => ∃ k : Nat, k ≤ P.length ∧ gh = P.length - k ∧ iv = .int .i64 k ∧ nv = .int .i64 ((blkP (P.take k) : Nat) : Int) ∧ Hid (Below w.heap.size w wr))
  case atStart => exact ⟨0, Nat.zero_le _, rfl, rfl, by rw [unhide HP0]; rfl, HW⟩
  case round =>
    clear HW
    obtain ⟨k, hk, rfl, rfl, rfl, HW⟩ := hrel
    by_cases hkn : k < P.length
    · have hki : (k : Int) < P.length := by omega
      have HG2 := hide ((unhide HG).below (unhide HW))
      obtain ⟨p0, p1⟩ := (unhide HG2).at hkn
      have HL := hide ((unhide HG2).lnk k hkn)
      have h6 := unhide HH k hkn
      have hbk := unhide HBD k hk
      have HS : Hid (blkP (P.take (k + 1)) = blkP (P.take k) + inW (P.getD k [])) := blkP_take hkn
      have hil := inW_le (P.getD k [])
      obtain ⟨row, erow⟩ : ∃ row, P.getD k [] = row := ⟨_, rfl⟩
      rw [erow] at p1 HL h6 HS hil
      clear erow
      obtain ⟨p, ep⟩ : ∃ p, (Z.getD k default).1 = p := ⟨_, rfl⟩
      rw [ep] at p0 HL
      clear ep
      generalize blkP (P.take k) = c0 at *
      clear HG2
      go_upto_region 5 with (fail)
      obtain ⟨W, eW⟩ : ∃ W, W = wr.alloc (.cells #[.pointer p, .int .i64 (row.length : Int)] 126) := ⟨_, rfl⟩
      have hb : Below wr.heap.size wr W := by rw [eW]; exact Below.alloc1 _ _
      have HB : Hid (OwnV W wr.heap.size [.pointer p, .int .i64 (row.length : Int)]) := by rw [eW]; exact ownV_alloc _ _ _
      rw [← eW]
      clear eW p0 p1
      replace HW := hide (Below.step (unhide HW) hb)
      replace HL := hide ((unhide HL).below hb)
      clear hb
      have b0 := (unhide HB).cell (i := 0) rfl
      go_wp2
      clear b0 HB
      go_loopg [3, 6] row.length (fun gh nv pv wr => ∃ (ys : List Int) (q : Option Addr) (c : Nat), gh = ys.length ∧ pv = .pointer q ∧ nv = .int .i64 (c : Int) ∧ c + inW ys = c0 + inW row ∧ Hid (Lnk wr ys q) ∧ Hid (Below w.heap.size w wr))
      case atStart => exact ⟨row, p, c0, rfl, rfl, rfl, rfl, HL, HW⟩
      case round =>
        clear HL HW
        obtain ⟨ys, q, c, rfl, rfl, rfl, hc, HL, HW⟩ := hrel
        cases ys with
        | nil =>
          have ep : q = none := unhide HL
          subst ep
          have hc' : c = c0 + inW row := by simpa [inW] using hc
          clear hc
          go_wp2
          go_roundg (P.length - (k + 1))
          case measure => omega
          case rel => exact ⟨k + 1, by omega, rfl, by go_num, by rw [unhide HS, hc'], HW⟩
        | cons y ys =>
          obtain ⟨g2, q2, rfl, hoy, hly⟩ := unhide HL
          have HQ := hide (isInWay_any g2 q2 y ys _ hoy hly)
          have HLY := hide hly
          have HOY := hide hoy
          rw [inW_cons] at hc
          clear hoy hly HL
          cases eb : lessB ys y with
          | true =>
            rw [eb] at hc HQ
            clear eb
            have hc2 : c + 1 + inW ys = c0 + inW row := by simp at hc; omega
            clear hc
            go_wp2_with fail
            refine (unhide HQ).mono ?_
            rintro e w8 ⟨rfl, hb⟩
            replace HW := hide (Below.step (unhide HW) hb)
            replace HLY := hide ((unhide HLY).below hb)
            have y1 := ((unhide HOY).step hb).cell (i := 1) rfl
            clear hb
            go_wp2
            go_roundg ys.length
            case measure => simp
            case rel => exact ⟨ys, q2, c + 1, rfl, rfl, by go_num, hc2, HLY, HW⟩
          | false =>
            rw [eb] at hc HQ
            clear eb
            have hc2 : c + inW ys = c0 + inW row := by simp at hc; omega
            clear hc
            go_wp2_with fail
            refine (unhide HQ).mono ?_
            rintro e w8 ⟨rfl, hb⟩
            replace HW := hide (Below.step (unhide HW) hb)
            replace HLY := hide ((unhide HLY).below hb)
            have y1 := ((unhide HOY).step hb).cell (i := 1) rfl
            clear hb
            go_wp2
            go_roundg ys.length
            case measure => simp
            case rel => exact ⟨ys, q2, c, rfl, rfl, rfl, hc2, HLY, HW⟩
    · have hkk : k = P.length := by omega
      subst hkk
      go_wp2
      go_ret
      exact ⟨by rw [unhide HPN]; rfl, unhide HW⟩

end Go.Proofs.Ytjllilmiloippaa
