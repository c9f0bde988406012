/- Contracts of the laws' own helpers over lists of lists of Room. Written by wip/mkrecss.py. -/
import Derived.Test.YticcjdcglfiggaaRRoom
import Derived.Test.YticcjdcglfiggaaRecss
namespace Go.Proofs.Yticcjdcglfiggaa
open Go.RowKit

set_option maxHeartbeats 400000 in
theorem szRoomSS_any (v : Value) (LL : List (List I3)) (left : Int) (w : World) (h : RR3 w v LL) (h0 : 0 ≤ left) (h1 : left ≤ 1048576) :
    Calls Try.prog 44 #[v, .int .i64 left] w fun e w' => ∃ r, e = .returned (.int .i64 r) ∧ SizedLL LL r ∧ w = w' := by
  obtain ⟨ao, cap, rfl, hl, hm, hc⟩ := h
  unfold maxLen at hm
  have HC := hide hc
  clear hc
  obtain ⟨n, hn⟩ : ∃ n, LL.length = n := ⟨_, rfl⟩
  rw [hn] at hl ⊢
  have HN := hide hn
  clear hn
  by_cases hlt : left < (n : Int)
  · go_enter Try.func44, Try.ntmps44
    go_wp2
    go_ret
    exact ⟨_, rfl, ⟨by omega, by omega, fun h => by omega⟩, rfl⟩
  · go_enter Try.func44, Try.ntmps44
    go_wp2
    go_loopg [1, 5] n (fun g l i wr => w = wr ∧ ∃ k : Nat, ∃ z : Int, k ≤ n ∧ g = n - k ∧ i = .int .i64 k ∧ l = .int .i64 z ∧ 0 ≤ z ∧ z ≤ 1048576 ∧ Hid (∀ r, r < k → (LL.getD r []).length ≤ 1048576))
    case atStart => exact ⟨rfl, 0, _, Nat.zero_le _, rfl, rfl, rfl, by omega, by omega, fun r hr => by omega⟩
    case round =>
      obtain ⟨rfl, k, z, hk, rfl, rfl, rfl, hz0, hz1, HD⟩ := hrel
      by_cases hkn : k < n
      · obtain ⟨b, o, ar, m, cr, rfl, hcell, hrow, EM, hm0⟩ := recsAt (unhide HC) (by rw [unhide HN]; exact hkn)
        have HR := hide (szRoomS_any _ _ z w hrow hz0 hz1)
        clear hrow
        go_wp2_with fail
        refine (unhide HR).mono ?_
        rintro e w' ⟨r, rfl, ⟨s1, s2, s3⟩, rfl⟩
        have HS := hide s3
        clear s3 HR
        by_cases hneg : r < 0
        · go_wp2
          go_ret
          exact ⟨_, rfl, ⟨by omega, by omega, fun h => by omega⟩, rfl⟩
        · go_wp2
          go_roundg (n - (k + 1))
          case measure => omega
          case rel => exact ⟨rfl, k + 1, _, by omega, rfl, by go_num, rfl, by omega, by omega, fun q hq => by
            by_cases e : q = k
            · subst e; exact unhide HS (by omega)
            · exact HD.out q (by omega)⟩
      · go_wp2
        go_ret
        exact ⟨_, rfl, ⟨by omega, by omega, fun h => ⟨by rw [unhide HN]; omega, fun i hi => HD.out i (by rw [unhide HN] at hi; omega)⟩⟩, rfl⟩

theorem Try.infoSlRoom : (Try.prog.info? 38).map (fun i => (i.zero, i.size, i.bytes)) = some (some (.slice none 0 0), 1, 24) := by kernel_rfl

set_option maxHeartbeats 400000 in
theorem toRoomSS_any (v : Value) (LL : List (List I3)) (w : World) (h : RR3 w v LL) (hs : LL.length ≤ 1048576) (hl : ∀ i, i < LL.length → (LL.getD i []).length ≤ 1048576) :
    Calls Try.prog 46 #[v] w fun e w' => ∃ g, e = .returned (.slice (some ⟨g, 0, none⟩) LL.length LL.length) ∧ w.heap.size ≤ g ∧ RR3 w' (.slice (some ⟨g, 0, none⟩) LL.length LL.length) LL ∧ Below w.heap.size w w' := by
  obtain ⟨ao, cap, rfl, hlc, hm, hc⟩ := h
  clear hlc hm
  have HC := hide hc
  have HL := hide hl
  clear hc hl
  have hmk := run_make_row' (P := Try.prog) 45 38 (.slice none 0 0) 24 Try.underlying45 Try.infoSlRoom rfl .i64 .i64 LL.length (by omega) (by omega)
  go_enter Try.func46, Try.ntmps46
  go_wp2
  clear hmk
  go_loopg [4] LL.length (fun g i wr => ∃ k : Nat, ∃ G, k ≤ LL.length ∧ g = LL.length - k ∧ i = .int .i64 k ∧ FillT 38 w wr LL.length (fun r => (LL.getD r []).length) (fun r => recCells 3 e3 (LL.getD r [])) k G)
  case atStart => exact ⟨0, _, Nat.zero_le _, rfl, rfl, FillT.start _ _ _ _ _⟩
  case round =>
    obtain ⟨k, G, hk, rfl, rfl, hF⟩ := hrel
    by_cases hkn : k < LL.length
    · obtain ⟨b, o, ar, m, cr, rfl, hcell, hrow, EM, hm0⟩ := recsAt (unhide HC) hkn
      have g1 : wr.cell? ⟨b, o + k, none⟩ = some (.slice ar m cr) := (hF.below.cell (lt_of_cell hcell)).trans hcell
      have HR := hide (toRoomS_any _ _ wr (hrow.below hF.below) (unhide HL k hkn))
      have HF := hide hF
      clear hcell hF hrow
      go_wp2_with fail
      refine (unhide HR).mono ?_
      rintro e w1 ⟨g, rfl, hg, ho, hb⟩
      obtain ⟨g2, g3⟩ := (unhide HF).cell hb hkn
      have HS := hide ((unhide HF).step hg ho hb)
      clear ho hb HR HF
      rw [unhide EM] at HS ⊢
      go_wp2
      go_roundg (LL.length - (k + 1))
      case measure => omega
      case rel => exact ⟨k + 1, _, by omega, rfl, by go_num, unhide HS⟩
    · have hkk : k = LL.length := by omega
      subst hkk
      go_wp2
      go_ret
      exact ⟨_, rfl, Nat.le_refl _, hF.done hs (unhide HL), hF.below⟩

set_option maxHeartbeats 400000 in
theorem eqRoomSS_any (v v' : Value) (LL : List (List I3)) (w : World) (h : RR3 w v LL) (h' : RR3 w v' LL) :
    Calls Try.prog 47 #[v, v'] w fun e w' => e = .returned (.bool true) ∧ Below w.heap.size w w' := by
  obtain ⟨ao, cap, rfl, hl, hm, hc⟩ := h
  obtain ⟨ao', cap', rfl, _, _, hc'⟩ := h'
  unfold maxLen at hm
  have HC := hide hc
  have HC' := hide hc'
  clear hc hc'
  go_enter Try.func47, Try.ntmps47
  go_wp2
  go_loopg [5] LL.length (fun g i wr => Below w.heap.size w wr ∧ ∃ k : Nat, k ≤ LL.length ∧ g = LL.length - k ∧ i = .int .i64 k)
  case atStart => exact ⟨Below.refl _ _, 0, Nat.zero_le _, rfl, rfl⟩
  case round =>
    obtain ⟨hW, k, hk, rfl, rfl⟩ := hrel
    by_cases hkn : k < LL.length
    · obtain ⟨b, o, ar, m, cr, rfl, hcell, hrow, EM, hm0⟩ := recsAt (unhide HC) hkn
      obtain ⟨b', o', ar', m', cr', rfl, hcell', hrow', EM', hm0'⟩ := recsAt (unhide HC') hkn
      have r0 := fun x' : Gr wr => gr_cell (wcell3 hcell hW) x'
      have r1 := fun x' : Gr wr => gr_cell (wcell3 hcell' hW) x'
      have S1 := hide fun x' : Gr wr => eqRoomS_any _ _ _ x'.val ((hrow.below hW).below x'.ok) ((hrow'.below hW).below x'.ok)
      have HW := hide hW
      have gsome := gr_some wr
      clear hcell hcell' hrow hrow' hW
      go_wp2
      refine wp_region_grown (by kernel_rfl) (by kernel_rfl) ?_
      repeat (go_big_quiet_step (fail))
      go_big_quiet_want
      go_big_quiet_op
      go_big_quiet_call (exact calls_grown (unhide S1 _))
      repeat (go_big_quiet_step (fail))
      refine wpQuiet_nil ?_
      intro w1 hw1
      obtain ⟨z', hz⟩ := hw1
      have hb1 : Below wr.heap.size wr w1 := hz ▸ z'.ok
      clear hz gsome
      go_wp2
      go_roundg (LL.length - (k + 1))
      case measure => omega
      case rel => exact ⟨Below.step (unhide HW) hb1, k + 1, by omega, rfl, by go_num⟩
    · go_wp2
      go_ret
      exact ⟨rfl, hW⟩

end Go.Proofs.Yticcjdcglfiggaa
