/- The program's closures that know a box, isInWay and blockers. Written by wip/mkybb.py. -/
import Derived.Test.YtjllilmiloippaaYbA
import Derived.Test.YtjllilmiloippaaYaW
namespace Go.Proofs.Ytjllilmiloippaa
open Go.RowKit

set_option maxHeartbeats 1600000 in
theorem boxOf_any (x : Int) (w : World) : Calls Try.prog 86 #[.int .i64 x] w fun e w' => e = .returned (.int .i64 x) ∧ Below w.heap.size w w' := by
  go_enter Try.func86, Try.ntmps86
  go_wp2
  go_ret
  exact ⟨rfl, Below.refl _ _⟩

set_option maxHeartbeats 1600000 in
theorem turnOf_any (x : Int) (gb : Nat) (v : Value) (O : List Int) (w : World) (hb : w.cell? ⟨gb, 0, none⟩ = some v) (h : IntsIn w v O) :
    Calls Try.prog 92 #[.int .i64 x, .pointer (some ⟨gb, 0, none⟩)] w fun e w' => e = .returned (.int .i64 (trn O x)) ∧ Below w.heap.size w w' := by
  have HQ := hide (slIndex_any v O x w h)
  obtain ⟨ao, cap, rfl, hl, hm, -⟩ := h
  unfold maxLen at hm
  by_cases hx : x ∈ O
  · have e : idxV O x = trn O x := by rw [idxV, if_pos hx, trn]
    have h0 : 0 ≤ trn O x := by unfold trn; omega
    rw [e] at HQ
    generalize trn O x = z at *
    clear e hx
    go_enter Try.func92, Try.ntmps92
    go_wp2_with fail
    refine (unhide HQ).mono ?_
    rintro e w' ⟨rfl, rfl⟩
    go_wp2
    go_ret
    exact ⟨rfl, Below.refl _ _⟩
  · have e : idxV O x = -1 := by rw [idxV, if_neg hx]
    have h0 : trn O x = (O.length : Int) := by rw [trn, List.idxOf_eq_length hx]
    rw [e] at HQ
    rw [h0]
    clear e hx h0
    go_enter Try.func92, Try.ntmps92
    go_wp2_with fail
    refine (unhide HQ).mono ?_
    rintro e w' ⟨rfl, rfl⟩
    go_wp2
    go_ret
    exact ⟨rfl, Below.refl _ _⟩

def lessB (xs : List Int) (x : Int) : Bool := xs.any (fun y => decide (y < x))

set_option maxHeartbeats 1600000 in
theorem isInWay_any (g : Nat) (q : Option Addr) (x : Int) (xs : List Int) (w : World) (ho : OwnV w g [.int .i64 x, .pointer q]) (hl : Lnk w xs q) :
    Calls Try.prog 93 #[.pointer (some ⟨g, 0, none⟩)] w fun e w' => e = .returned (.bool (lessB xs x)) ∧ Below w.heap.size w w' := by
  obtain ⟨r, er⟩ : ∃ r, r = lessB xs x := ⟨_, rfl⟩
  rw [← er]
  have ER := hide er
  clear er
  have HO := hide ho
  have HL := hide hl
  have c0 := ho.cell (i := 0) rfl
  have c1 := ho.cell (i := 1) rfl
  clear ho hl
  go_enter Try.func93, Try.ntmps93
  go_wp2
  clear c0 c1
  go_loopg [3] xs.length (fun gh pv wr => ∃ (ys : List Int) (p : Option Addr), gh = ys.length ∧ pv = .pointer p ∧ Hid (Lnk wr ys p) ∧ Hid (r = lessB ys x) ∧ Hid (Below w.heap.size w wr))
  case atStart => exact ⟨xs, q, rfl, rfl, HL, ER, hide (Below.refl _ _)⟩
  case round =>
    clear HL ER
    obtain ⟨ys, p, rfl, rfl, HL, ER, HW⟩ := hrel
    have HO2 := hide ((unhide HO).step (unhide HW))
    have c0 := (unhide HO2).cell (i := 0) rfl
    cases ys with
    | nil =>
      have ep : p = none := unhide HL
      subst ep
      have e1 : r = false := unhide ER
      subst e1
      go_wp2
      go_ret
      exact ⟨rfl, unhide HW⟩
    | cons y ys =>
      obtain ⟨g2, q2, rfl, hoy, hly⟩ := unhide HL
      have HLY := hide hly
      have y0 := hoy.cell (i := 0) rfl
      have y1 := hoy.cell (i := 1) rfl
      have HOY := hide hoy
      clear hoy hly HL
      by_cases hlt : y < x
      · have e1 : r = true := by rw [unhide ER, lessB]; simp [hlt]
        subst e1
        go_upto_region 4 with (fail)
        have gt0 := fun x' : Gr wr => gr_cell ((unhide HO2).cell (i := 0) rfl) x'
        have gt1 := fun x' : Gr wr => gr_cell ((unhide HOY).cell (i := 0) rfl) x'
        have gsome := gr_some wr
        refine wp_region_grown (by kernel_rfl) (by kernel_rfl) ?_
        repeat (go_big_quiet_step (fail))
        refine wpQuiet_nil ?_
        intro wz hw1
        obtain ⟨z', hz⟩ := hw1
        have hb : Below wr.heap.size wr wz := hz ▸ z'.ok
        clear hz z' gsome gt0 gt1
        replace HW := hide (Below.step (unhide HW) hb)
        clear hb c0 y0 y1
        go_wp2
        go_ret
        exact ⟨rfl, unhide HW⟩
      · have HE2 : Hid (r = lessB ys x) := by show _ = _; rw [unhide ER, lessB, lessB]; simp [hlt]
        go_upto_region 4 with (fail)
        have gt0 := fun x' : Gr wr => gr_cell ((unhide HO2).cell (i := 0) rfl) x'
        have gt1 := fun x' : Gr wr => gr_cell ((unhide HOY).cell (i := 0) rfl) x'
        have gsome := gr_some wr
        refine wp_region_grown (by kernel_rfl) (by kernel_rfl) ?_
        repeat (go_big_quiet_step (fail))
        refine wpQuiet_nil ?_
        intro wz hw1
        obtain ⟨z', hz⟩ := hw1
        have hb : Below wr.heap.size wr wz := hz ▸ z'.ok
        clear hz z' gsome gt0 gt1
        replace HW := hide (Below.step (unhide HW) hb)
        replace HLY := hide ((unhide HLY).below hb)
        have y1 := ((unhide HOY).step hb).cell (i := 1) rfl
        clear hb c0 y0
        go_wp2
        go_roundg ys.length
        case measure => simp
        case rel => exact ⟨ys, q2, rfl, rfl, HLY, HE2, HW⟩

end Go.Proofs.Ytjllilmiloippaa
