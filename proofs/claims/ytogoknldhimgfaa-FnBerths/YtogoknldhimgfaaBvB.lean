/- The contract of the stable sort's insertion sort. Written by wip/mkly.py. -/
import Derived.Test.YtogoknldhimgfaaBvA
namespace Go.Proofs.Ytogoknldhimgfaa
open Go.RowKit

def Vals (r D : List Int) : Prop := ∀ x, x ∈ D → 0 ≤ x ∧ x < (r.length : Int)
theorem Vals.at {r D : List Int} (h : Vals r D) {k : Nat} (hk : k < D.length) : 0 ≤ ix D k ∧ ix D k < (r.length : Int) := h _ (by unfold ix; rw [getD_lt hk]; exact List.getElem_mem _)
theorem Vals.seg {r D E : List Int} {a b : Nat} (h : Vals r D) (hs : Seg a b D E) : Vals r E := fun x hx => h x (hs.perm.mem_iff.1 hx)
/-- The order's call, told in a world that has grown. -/
theorem cmpF_gr {g gb gr cb : Nat} {r : List Int} {x y : Int} {w : World} (h : Keys w g gb gr cb r) (hx : 0 ≤ x ∧ x < (r.length : Int)) (hy : 0 ≤ y ∧ y < (r.length : Int)) :
    Hid (∀ z : Gr w, Calls Try.prog 83 #[.int .i64 x, .int .i64 y, .pointer (some ⟨gb, 0, none⟩)] z.val fun e w' => e = .returned (.int .i64 (cmpI (ky r y) (ky r x))) ∧ Below z.val.heap.size z.val w') :=
  fun z => cmpF_any g gb gr cb r x y z.val (h.step z.ok) hx.1 hx.2 hy.1 hy.2

set_option maxRecDepth 10000 in
set_option maxHeartbeats 4000000 in
theorem insertion_any (g gb gr cb n cap a b : Nat) (r D : List Int) (w : World) (hk : Keys w g gb gr cb r) (h : OwnV w g (ints D)) (hn : D.length = n) (hab : a ≤ b) (hbn : b ≤ n) (hn1 : n ≤ 1000) (hc : n ≤ cap) (hcm : cap ≤ 1048576)
    (hv : Vals r D) (hasc : ∀ p q, a ≤ p → p < q → q < b → ix D p < ix D q) :
    Calls Try.prog 91 #[.slice (some ⟨g, 0, none⟩) n cap, .int .i64 (a : Int), .int .i64 (b : Int), cmpF gb] w (RowAns g w (Mgd r D a b)) := by
  have HKY := hide hk
  have HO := hide h
  have HN := hide hn
  have HV := hide hv
  have HA := hide hasc
  have HD : Hid (Seg a (min (a + 1) b) D D ∧ Srt r D a (min (a + 1) b)) := ⟨Seg.refl _ _ _, fun p q h1 h2 h3 => by omega⟩
  have w0 : IntKind.i64.wrap ((a : Int) + 1) = ((a + 1 : Nat) : Int) := by rw [IntKind.wrap_i64]; omega
  clear hk h hn hv hasc
  unfold cmpF
  go_enter Try.func91, Try.ntmps91
  go_wp2
  go_loopg [8] (b + 1 - (a + 1)) (fun gg iv wr => ∃ (i : Nat) (E : List Int), gg = b + 1 - i ∧ iv = .int .i64 (i : Int) ∧ a + 1 ≤ i ∧ i ≤ b + 1 ∧ Hid (OwnV wr g (ints E)) ∧ Hid (Seg a (min i b) D E ∧ Srt r E a (min i b)) ∧ Hid (Kept (fun b => b = g) w wr))
  case atStart => exact ⟨a + 1, D, rfl, rfl, Nat.le_refl _, by omega, HO, HD, Kept.refl _ _⟩
  case round =>
    clear HO HD w0
    obtain ⟨i, E, rfl, rfl, hi1, hi2, HO, HD, HK⟩ := hrel
    generalize wr = wo at *
    by_cases hib : i < b
    · have hiI : (i : Int) < b := by omega
      have HI : Hid (Ins r D a i i E) := by
        have h1 := unhide HD
        rw [show min i b = i by omega] at h1
        exact Ins.start h1.1 h1.2 (by omega) (fun p h2 h3 => unhide HA p i h2 h3 hib)
      clear HD
      go_wp2
      go_loopg [9] (i + 1) (fun gg jv wr => ∃ (j : Nat) (E : List Int), gg = j + 1 ∧ jv = .int .i64 (j : Int) ∧ a ≤ j ∧ j ≤ i ∧ Hid (OwnV wr g (ints E)) ∧ Hid (Ins r D a i j E) ∧ Hid (Kept (fun b => b = g) w wr))
      case atStart => exact ⟨i, E, rfl, rfl, by omega, Nat.le_refl _, HO, HI, HK⟩
      case round =>
        clear HO HI HK
        obtain ⟨j, E, rfl, rfl, hj1, hj2, HO, HI, HK⟩ := hrel
        have HL : Hid (E.length = n) := (unhide HI).seg.len.trans (unhide HN)
        by_cases hja : a < j
        · have dj : decide ((a : Int) < (j : Int)) = true := by simp; omega
          obtain ⟨q, eq⟩ : ∃ q : Nat, q = j - 1 := ⟨_, rfl⟩
          have wq : IntKind.i64.wrap ((j : Int) - 1) = (q : Int) := by rw [IntKind.wrap_i64]; omega
          have hq : q < n := by omega
          have hjn : j < n := by omega
          have hqI : (q : Int) < n := by omega
          have hjI : (j : Int) < n := by omega
          have hqa : a ≤ q := by omega
          have hq1 : q < j := by omega
          have hq2 : j ≤ q + 1 := by omega
          have cj0 := (unhide HO).cell (ints_atA (M := E) (p := j) (by rw [unhide HL]; exact hjn))
          have cq0 := (unhide HO).cell (ints_atA (M := E) (p := q) (by rw [unhide HL]; exact hq))
          have hvE := (unhide HV).seg (unhide HI).seg
          have HC := cmpF_gr ((unhide HKY).kept (unhide HK)) (hvE.at (k := j) (by rw [unhide HL]; exact hjn)) (hvE.at (k := q) (by rw [unhide HL]; exact hq))
          have HNX : Hid (ky r (ix E q) < ky r (ix E j) → Ins r D a i q (swp E j q)) := fun h => by rw [eq] at h ⊢; exact (unhide HI).next (by rw [unhide HL]; omega) hja h
          have HDN : Hid (¬ ky r (ix E q) < ky r (ix E j) → Srt r E a (i + 1)) := fun h => by rw [eq] at h; exact (unhide HI).done (Or.inr h)
          have HOS := hide fun W (hW : OwnV W g (ints E)) => own_swp hW (i := j) (j := q) (by rw [unhide HL]; exact hjn) (by rw [unhide HL]; exact hq)
          have hz := cmpI_neg (x := ky r (ix E q)) (y := ky r (ix E j))
          clear hvE eq
          have cj := fun x' : Gr wr => gr_cell cj0 x'
          have cq := fun x' : Gr wr => gr_cell cq0 x'
          clear cj0 cq0
          by_cases hc0 : ky r (ix E q) < ky r (ix E j)
          · have dz : decide (cmpI (ky r (ix E q)) (ky r (ix E j)) < 0) = true := by simpa using hz.2 hc0
            have HI2 := hide (unhide HNX hc0)
            clear HNX HDN hz hc0
            generalize cmpI (ky r (ix E q)) (ky r (ix E j)) = z at *
            generalize swp E j q = E2 at *
            generalize ix E j = vj at *
            generalize ix E q = vq at *
            have gsome := gr_some wr
            go_wp2_with fail
            refine wp_region_grown (by kernel_rfl) (by kernel_rfl) ?_
            repeat (go_big_quiet_step (fail))
            go_big_quiet_want
            go_big_quiet_op
            go_big_quiet_call (exact calls_grown (unhide HC _))
            repeat (go_big_quiet_step (fail))
            refine wpQuiet_nil ?_
            intro w1 hw1
            obtain ⟨z', hz⟩ := hw1
            have hb : Below wr.heap.size wr w1 := hz ▸ z'.ok
            clear hz z' gsome
            replace HO := hide ((unhide HO).step hb)
            replace HK := hide ((unhide HK).trans (kept_of_below hb))
            have cj2 := cj ⟨w1, hb⟩
            have cq2 := cq ⟨w1, hb⟩
            dsimp only at cj2 cq2
            clear hb HC cj cq
            have fz := (unhide HO).frozen
            have n1 : ¬ q = j := by omega
            have n2 : ¬ j = q := by omega
            have HN2 := hide (unhide HOS _ (unhide HO))
            have HK2 := hide (kept_swp (i := j) (j := q) (x := .int .i64 vq) (y := .int .i64 vj) (unhide HK))
            clear HOS HO HK HI
            go_wp2_with fail
            go_region
            all_goals
              go_wp2
              go_roundg (q + 1)
              case measure => omega
              case rel => first | exact ⟨q, E2, rfl, rfl, hqa, by omega, HN2, HI2, HK2⟩ | exact ⟨q, E2, rfl, rfl, hqa, by omega, OwnV.step (unhide HN2) (Below.refl _ _).drew, HI2, kept_drew (unhide HK2)⟩
          · have dz : decide (cmpI (ky r (ix E q)) (ky r (ix E j)) < 0) = false := by simpa using fun h => hc0 (hz.1 h)
            have HS2 := hide (unhide HDN hc0)
            clear HNX HDN hz hc0 HOS
            generalize cmpI (ky r (ix E q)) (ky r (ix E j)) = z at *
            generalize ix E j = vj at *
            generalize ix E q = vq at *
            have gsome := gr_some wr
            go_wp2_with fail
            refine wp_region_grown (by kernel_rfl) (by kernel_rfl) ?_
            repeat (go_big_quiet_step (fail))
            go_big_quiet_want
            go_big_quiet_op
            go_big_quiet_call (exact calls_grown (unhide HC _))
            repeat (go_big_quiet_step (fail))
            refine wpQuiet_nil ?_
            intro w1 hw1
            obtain ⟨z', hz⟩ := hw1
            have hb : Below wr.heap.size wr w1 := hz ▸ z'.ok
            clear hz z' gsome
            have HO2 := hide ((unhide HO).step hb)
            have HK2 := hide ((unhide HK).trans (kept_of_below hb))
            have HD2 : Hid (Seg a (min (i + 1) b) D E ∧ Srt r E a (min (i + 1) b)) := by rw [show min (i + 1) b = i + 1 by omega]; exact ⟨(unhide HI).seg, unhide HS2⟩
            clear hb HC cj cq HO HK HI HS2 HL
            go_wp2
            go_roundg (b + 1 - (i + 1))
            case measure => omega
            case rel => exact ⟨i + 1, E, rfl, by go_num, by omega, by omega, HO2, HD2, HK2⟩
        · have dj : decide ((a : Int) < (j : Int)) = false := by simp; omega
          have HD2 : Hid (Seg a (min (i + 1) b) D E ∧ Srt r E a (min (i + 1) b)) := by rw [show min (i + 1) b = i + 1 by omega]; exact ⟨(unhide HI).seg, (unhide HI).done (Or.inl (by omega))⟩
          clear HI
          have gsome := gr_some wr
          go_wp2_with fail
          refine wp_region_grown (by kernel_rfl) (by kernel_rfl) ?_
          repeat (go_big_quiet_step (fail))
          refine wpQuiet_nil ?_
          intro w1 hw1
          obtain ⟨z', hz⟩ := hw1
          have hb : Below wr.heap.size wr w1 := hz ▸ z'.ok
          clear hz z' gsome
          have HO2 := hide ((unhide HO).step hb)
          have HK2 := hide ((unhide HK).trans (kept_of_below hb))
          clear hb HO HK HL
          go_wp2
          go_roundg (b + 1 - (i + 1))
          case measure => omega
          case rel => exact ⟨i + 1, E, rfl, by go_num, by omega, by omega, HO2, HD2, HK2⟩
    · have HR : Hid (Mgd r D a b E) := by have h1 := unhide HD; rw [show min i b = b by omega] at h1; exact h1
      clear HD
      go_wp2
      go_end0
      exact rowAns_mk (unhide HO) (unhide HR) (unhide HK)


end Go.Proofs.Ytogoknldhimgfaa
