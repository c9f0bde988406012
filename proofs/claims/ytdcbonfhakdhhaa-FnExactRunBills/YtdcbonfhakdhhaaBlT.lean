/- Bills: contracts of both TitleOf. -/
import Derived.Test.YtdcbonfhakdhhaaBlH
import Derived.Test.YtdcbonfhakdhhaaBlG
namespace Go.Proofs.Ytdcbonfhakdhhaa
open Go.RowKit

theorem tit_no {b : BkT} {id : Int} (h : (bookB b && hasB b.1 id && !b.2.contains id) = false) : titV b id = (nob, false) := by
  rw [titV, h]; rfl
theorem tit_yes {b : BkT} {id : Int} (h : (bookB b && hasB b.1 id && !b.2.contains id) = true) {x : BlT} (hx : b.1.getD (plc b.1 id) default = x) : titV b id = (titOf x.2.2.1 x.2.2.2.2, true) := by
  subst hx
  rw [titV, h]; rfl
theorem place_of {b : BkT} {id : Int} (h : bookB b = true) (hh : hasB b.1 id = true) : plc b.1 id < b.1.length ∧ fnd b.1 id = (plc b.1 id : Nat) ∧ bId b.1 (plc b.1 id) = id := by
  have ha := up_asc (book_parts h).2.1
  have hf := fnd_asc ha id
  rw [has_fnd] at hh
  simp only [decide_eq_true_eq] at hh
  by_cases hc : plc b.1 id < b.1.length ∧ bId b.1 (plc b.1 id) = id
  · rw [if_pos hc] at hf
    exact ⟨hc.1, hf, hc.2⟩
  · rw [if_neg hc] at hf
    omega

set_option maxRecDepth 10000 in
set_option maxHeartbeats 3200000 in
theorem implTitleOf_any (bv fv : Value) (b : BkT) (id : Int) (w : World) (h : BkIn w bv fv b) (hbd : Bd b) :
    Calls Try.prog 13 #[vBook bv fv, .int .i64 id] w fun e w' => e = .returned (.tuple #[.string (titV b id).1, .bool (titV b id).2]) ∧ Below w.heap.size w w' := by
  have HBK := hide h
  obtain ⟨L, F⟩ := b
  obtain ⟨h, hF⟩ := h
  have h' := h
  obtain ⟨ao, cap, rfl, hl, hm, -⟩ := h'
  obtain ⟨fo, fcap, rfl, -⟩ := hF
  unfold maxLen at hm
  dsimp only at h hl ⊢
  have A := Below.alloc1 w (.cells #[.slice ao L.length cap, .slice fo F.length fcap] 27)
  have HO := hide (ownV_alloc w #[.slice ao L.length cap, .slice fo F.length fcap] 27)
  have HC := hide h
  have HW := hide A
  have HBD := hide hbd
  have QB := hide fun V (hV : Below w.heap.size w V) => implBookOk_any _ _ (L, F) V ((unhide HBK).below hV)
  have QA : Hid (bookB (L, F) = true → ∀ V, Below w.heap.size w V → Calls Try.prog 45 #[vBook (.slice ao L.length cap) (.slice fo F.length fcap), .int .i64 id] V fun e w' => e = .returned (.tuple #[.int .i64 (plc L id : Nat), .bool (hasB L id)]) ∧ Below V.heap.size V w') := fun hb V hV => by
    have ha := up_asc (book_parts hb).2.1
    have := billAt_any _ _ (L, F) id V ((unhide HBK).below hV) (unhide HBD).1 ha
    rwa [at_has ha] at this
  have QH : Hid (bookB (L, F) = true → ∀ V, Below w.heap.size w V → Calls Try.prog 46 #[vBook (.slice ao L.length cap) (.slice fo F.length fcap), .int .i64 id] V fun e w' => e = .returned (.bool (F.contains id)) ∧ Below V.heap.size V w') := fun hb V hV =>
    isFreed_any _ _ (L, F) id V ((unhide HBK).below hV) (unhide HBD).2.1 (fr_asc (book_parts hb).2.2)
  have HNO := hide fun h => tit_no (b := (L, F)) (id := id) h
  have HYS := hide fun h x hx => tit_yes (b := (L, F)) (id := id) h (x := x) hx
  have HPL := hide fun h hh => place_of (b := (L, F)) (id := id) h hh
  clear A h hbd
  unfold vBook at QA QB QH ⊢
  dsimp only at QA QB QH HNO HYS HPL
  generalize titV (L, F) id = Z at *
  generalize bookB (L, F) = z1 at *
  generalize hasB L id = z2 at *
  generalize F.contains id = z3 at *
  obtain ⟨k, ek⟩ : ∃ k, k = plc L id := ⟨_, rfl⟩
  rw [← ek] at HPL HYS QA
  clear ek
  have q0 := (unhide HO).cell (i := 0) rfl
  have q1 := (unhide HO).cell (i := 1) rfl
  go_enter Try.func13, Try.ntmps13
  go_wp2_with fail
  refine (unhide QB _ (unhide HW)).mono ?_
  rintro e w1 ⟨rfl, hb⟩
  replace HW := hide (Below.step (unhide HW) hb)
  replace HO := hide ((unhide HO).step hb)
  clear hb QB q0 q1
  have q0 := (unhide HO).cell (i := 0) rfl
  have q1 := (unhide HO).cell (i := 1) rfl
  cases z1 with
  | false =>
    have hz := unhide HNO (by simp)
    subst hz
    clear QA QH HPL
    go_wp2
    go_ret2
    exact ⟨rfl, unhide HW⟩
  | true =>
    replace QA := hide (unhide QA (by simp))
    replace QH := hide (unhide QH (by simp))
    go_wp2_with fail
    refine (unhide QA _ (unhide HW)).mono ?_
    rintro e w2 ⟨rfl, hb⟩
    replace HW := hide (Below.step (unhide HW) hb)
    replace HO := hide ((unhide HO).step hb)
    clear hb QA q0 q1
    have q0 := (unhide HO).cell (i := 0) rfl
    have q1 := (unhide HO).cell (i := 1) rfl
    cases z2 with
    | false =>
      have hz := unhide HNO (by simp)
      subst hz
      go_wp2
      go_ret2
      exact ⟨rfl, unhide HW⟩
    | true =>
      obtain ⟨hp1, -, -⟩ := unhide HPL (by simp) (by simp)
      clear HPL
      go_wp2_with fail
      refine (unhide QH _ (unhide HW)).mono ?_
      rintro e w3 ⟨rfl, hb⟩
      replace HW := hide (Below.step (unhide HW) hb)
      replace HO := hide ((unhide HO).step hb)
      clear hb QH q0 q1
      have q0 := (unhide HO).cell (i := 0) rfl
      cases z3 with
      | true =>
        have hz := unhide HNO (by simp)
        subst hz
        go_wp2
        go_ret2
        exact ⟨rfl, unhide HW⟩
      | false =>
        have hH := (unhide HBD).held hp1
        obtain ⟨bb, o, na, nc, xi, sh, od, mn, H, m, rfl, hc0, hc1, hc2, hc3, hc4, hr, EX, EM, hm0⟩ := (unhide HC).at hp1
        dsimp only at hH
        rw [unhide EX] at hH
        dsimp only at hH
        have hz := unhide HYS (by simp) _ (unhide EX)
        dsimp only at hz
        subst hz
        have g0 := wcell3 hc0 (unhide HW)
        have g1 := wcell3 hc1 (unhide HW)
        have g2 := wcell3 hc2 (unhide HW)
        have g3 := wcell3 hc3 (unhide HW)
        have g4 := wcell3 hc4 (unhide HW)
        have hki : (k : Int) < L.length := by omega
        have QP := hide (paperOf_any xi sh od mn na m nc H w3 (hr.below (unhide HW)) (by rw [← unhide EM]; exact hH))
        unfold vBill at QP
        clear hc0 hc1 hc2 hc3 hc4 hr HNO HYS
        go_wp2_with fail
        refine (unhide QP).mono ?_
        rintro e w4 ⟨pg, rfl, hP, hb⟩
        replace HW := hide (Below.step (unhide HW) hb)
        have QT := hide (title_any _ pg od H w4 hP hH)
        clear hb QP hP
        go_wp2_with fail
        refine (unhide QT).mono ?_
        rintro e w5 ⟨rfl, h9⟩
        subst h9
        go_wp2
        go_ret2
        exact ⟨rfl, unhide HW⟩

end Go.Proofs.Ytdcbonfhakdhhaa
