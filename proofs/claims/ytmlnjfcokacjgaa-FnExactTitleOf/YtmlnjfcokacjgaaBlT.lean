/- Bills: contracts of both TitleOf. -/
import Derived.Test.YtmlnjfcokacjgaaBlH
import Derived.Test.YtmlnjfcokacjgaaBlG
namespace Go.Proofs.Ytmlnjfcokacjgaa
open Go.RowKit

theorem tit_no {b : BkT} {id : Int} (h : (bookB b && hasB b.1 id && !b.2.contains id) = false) : titV b id = (nob, false) := by
  rw [titV, h]; rfl
theorem tit_yes {b : BkT} {id : Int} (h : (bookB b && hasB b.1 id && !b.2.contains id) = true) {x : BlT} (hx : b.1.getD (plc b.1 id) default = x) : titV b id = (titOf x.2.2.1 x.2.2.2.2, true) := by
  subst hx
  rw [titV, h]; rfl
theorem place_of {b : BkT} {id : Int} (h : bookB b = true) (hh : hasB b.1 id = true) : plc b.1 id < b.1.length ∧ fnd b.1 id = (plc b.1 id : Nat) ∧ bId b.1 (plc b.1 id) = id := by
  have ha := up_asc (book_parts h).2.1
  have hf := fnd_asc ha id
  rw [has_fnd] at hh
  simp only [decide_eq_true_eq] at hh
  by_cases hc : plc b.1 id < b.1.length ∧ bId b.1 (plc b.1 id) = id
  · rw [if_pos hc] at hf
    exact ⟨hc.1, hf, hc.2⟩
  · rw [if_neg hc] at hf
    omega

set_option maxRecDepth 10000 in
set_option maxHeartbeats 3200000 in
theorem specTitleOf_any (bv fv : Value) (b : BkT) (id : Int) (w : World) (h : BkIn w bv fv b) (ht : ∀ x ∈ b.1, TxB x) :
    Calls Try.prog 33 #[vBook bv fv, .int .i64 id] w fun e w' => e = .returned (.tuple #[.string (titV b id).1, .bool (titV b id).2]) ∧ Below w.heap.size w w' := by
  have HBK := hide h
  obtain ⟨L, F⟩ := b
  obtain ⟨h, hF⟩ := h
  have h' := h
  have hF' := hF
  obtain ⟨ao, cap, rfl, hl, hm, -⟩ := h'
  obtain ⟨fo, fcap, rfl, -⟩ := hF'
  unfold maxLen at hm
  dsimp only at h hF ht hl ⊢
  have A := Below.alloc1 w (.cells #[.slice ao L.length cap, .slice fo F.length fcap] 27)
  have HO := hide (ownV_alloc w #[.slice ao L.length cap, .slice fo F.length fcap] 27)
  have HC := hide h
  have HW := hide A
  have QF := hide fun V (hV : Below w.heap.size w V) => l14Find_any _ _ (L, F) id V ((unhide HBK).below hV)
  have QB := hide fun V (hV : Below w.heap.size w V) => specBookOk_any _ _ (L, F) V ((unhide HBK).below hV) ht
  have QH := hide fun V (hV : Below w.heap.size w V) => l9Has_any _ F id V (hF.below hV)
  have HNO := hide fun h => tit_no (b := (L, F)) (id := id) h
  have HYS := hide fun h x hx => tit_yes (b := (L, F)) (id := id) h (x := x) hx
  have HPL := hide fun h hh => place_of (b := (L, F)) (id := id) h hh
  have HHF := hide (has_fnd L id)
  clear A h hF ht
  unfold vBook at QF QB ⊢
  dsimp only at QF QB HNO HYS HPL
  generalize titV (L, F) id = Z at *
  generalize fnd L id = f at *
  generalize bookB (L, F) = z1 at *
  generalize hasB L id = z2 at *
  generalize F.contains id = z3 at *
  have q0 := (unhide HO).cell (i := 0) rfl
  have q1 := (unhide HO).cell (i := 1) rfl
  go_enter Try.func33, Try.ntmps33
  go_wp2_with fail
  refine (unhide QF _ (unhide HW)).mono ?_
  rintro e w1 ⟨rfl, hb⟩
  replace HW := hide (Below.step (unhide HW) hb)
  replace HO := hide ((unhide HO).step hb)
  clear hb QF q0 q1
  have q0 := (unhide HO).cell (i := 0) rfl
  have q1 := (unhide HO).cell (i := 1) rfl
  go_wp2_with fail
  refine (unhide QB _ (unhide HW)).mono ?_
  rintro e w2 ⟨rfl, hb⟩
  replace HW := hide (Below.step (unhide HW) hb)
  replace HO := hide ((unhide HO).step hb)
  clear hb QB q0 q1
  have q0 := (unhide HO).cell (i := 0) rfl
  have q1 := (unhide HO).cell (i := 1) rfl
  cases z1 with
  | false =>
    have hz := unhide HNO (by simp)
    subst hz
    go_wp2
    go_ret2
    exact ⟨rfl, unhide HW⟩
  | true =>
    cases z2 with
    | false =>
      have hz := unhide HNO (by simp)
      subst hz
      have hf := unhide HHF
      have df : decide (f < 0) = true := by simp at hf; simpa using hf
      clear hf
      go_wp2
      go_ret2
      exact ⟨rfl, unhide HW⟩
    | true =>
      obtain ⟨hp1, hp2, -⟩ := unhide HPL (by simp) (by simp)
      obtain ⟨k, ek⟩ : ∃ k, k = plc L id := ⟨_, rfl⟩
      rw [← ek] at hp1 hp2 HYS
      subst hp2
      clear ek HHF HPL
      have df : decide ((k : Int) < 0) = false := by rw [decide_eq_false_iff_not]; omega
      go_wp2_with fail
      refine (unhide QH _ (unhide HW)).mono ?_
      rintro e w3 ⟨rfl, h9⟩
      subst h9
      clear QH
      cases z3 with
      | true =>
        have hz := unhide HNO (by simp)
        subst hz
        go_wp2
        go_ret2
        exact ⟨rfl, unhide HW⟩
      | false =>
        obtain ⟨bb, o, na, nc, xi, sh, od, mn, H, m, rfl, hc0, hc1, hc2, hc3, hc4, hr, EX, EM, hm0⟩ := (unhide HC).at hp1
        have hz := unhide HYS (by simp) _ (unhide EX)
        dsimp only at hz
        subst hz
        have g0 := wcell3 hc0 (unhide HW)
        have g1 := wcell3 hc1 (unhide HW)
        have g2 := wcell3 hc2 (unhide HW)
        have g3 := wcell3 hc3 (unhide HW)
        have g4 := wcell3 hc4 (unhide HW)
        have AL := Below.alloc1 w3 (.cells #[.int .i64 xi, .string sh, .string od, .int .i64 mn, .slice na m nc] 40)
        have HWA := hide (Below.step (unhide HW) AL)
        have HX := hide (ownV_alloc w3 #[.int .i64 xi, .string sh, .string od, .int .i64 mn, .slice na m nc] 40)
        have HR := hide hr
        have hki : (k : Int) < L.length := by omega
        have e0 := no_list od
        clear hc0 hc1 hc2 hc3 hc4 hr AL HNO HYS
        go_upto_region 5 with (fail)
        obtain ⟨V1, eV⟩ : ∃ z, z = w3.alloc (.cells #[.int .i64 xi, .string sh, .string od, .int .i64 mn, .slice na m nc] 40) := ⟨_, rfl⟩
        rw [← eV] at HWA HX ⊢
        clear eV g0 g1 g2 g3 g4 q0 q1
        obtain ⟨gx, egx⟩ : ∃ g, g = w3.heap.size := ⟨_, rfl⟩
        rw [← egx] at HX ⊢
        clear egx
        have d2 := (unhide HX).cell (i := 2) rfl
        have d4 := (unhide HX).cell (i := 4) rfl
        cases hno : noB od with
        | false =>
          have HT : Hid (titOf od H = od) := by show _ = _; simp [titOf, hno]
          rw [hno] at e0
          clear hno
          go_wp2
          go_ret2
          exact ⟨by rw [unhide HT]; rfl, unhide HWA⟩
        | true =>
          have HT : Hid (titOf od H = (H.find? (fun s => !noB s)).getD nob) := by show _ = _; simp [titOf, hno]
          rw [hno] at e0
          have HFA := hide fun k hk h1 h2 => find_at (H := H) (k := k) hk h1 h2
          have HFN := hide fun h => find_no (H := H) h
          have HCC := hide ((unhide HR).below (unhide HWA)).cells
          clear hno HR
          go_wp2
          go_loopg [8] m (fun g iv wr => wr = V1 ∧ ∃ j : Nat, j ≤ m ∧ g = m - j ∧ iv = .int .i64 j ∧ Hid (∀ t, t < j → H.getD t default = nob))
          case atStart => exact ⟨rfl, 0, Nat.zero_le _, rfl, rfl, fun t ht => by omega⟩
          case round =>
            obtain ⟨rfl, j, hj, rfl, rfl, HD⟩ := hrel
            by_cases hjn : j < m
            · have hji : (j : Int) < m := by omega
              have hj' : j < H.length := by rw [unhide EM]; exact hjn
              obtain ⟨b2, o2, rfl, hcell⟩ := unhide HCC j hj'
              have e1 := no_list (H.getD j default)
              cases hno : noB (H.getD j default) with
              | true =>
                have e2 : H.getD j default = nob := by simpa [noB] using hno
                have HD' : Hid (∀ t, t < j + 1 → H.getD t default = nob) := fun t ht => by
                  by_cases e : t = j
                  · rw [e]; exact e2
                  · exact unhide HD t (by omega)
                rw [hno] at e1
                generalize H.getD j default = s at *
                clear hno e2 HD hj'
                go_wp2
                go_roundg (m - (j + 1))
                case measure => omega
                case rel => exact ⟨rfl, j + 1, by omega, rfl, by go_num, HD'⟩
              | false =>
                have e2 : H.getD j default ≠ nob := by simpa [noB] using hno
                have HZ : Hid (titOf od H = H.getD j default) := by show _ = _; rw [unhide HT, unhide HFA j hj' (unhide HD) e2]; rfl
                rw [hno] at e1
                generalize H.getD j default = s at *
                clear hno e2 HD hj'
                go_wp2
                go_ret2
                exact ⟨by rw [unhide HZ]; rfl, unhide HWA⟩
            · have HZ : Hid (titOf od H = nob) := by show _ = _; rw [unhide HT, unhide HFN (fun t ht => unhide HD t (by rw [unhide EM] at ht; omega))]; rfl
              clear HD
              go_wp2
              go_ret2
              exact ⟨by rw [unhide HZ]; rfl, unhide HWA⟩

set_option maxRecDepth 10000 in
set_option maxHeartbeats 3200000 in
theorem implTitleOf_any (bv fv : Value) (b : BkT) (id : Int) (w : World) (h : BkIn w bv fv b) (hbd : Bd b) :
    Calls Try.prog 15 #[vBook bv fv, .int .i64 id] w fun e w' => e = .returned (.tuple #[.string (titV b id).1, .bool (titV b id).2]) ∧ Below w.heap.size w w' := by
  have HBK := hide h
  obtain ⟨L, F⟩ := b
  obtain ⟨h, hF⟩ := h
  have h' := h
  obtain ⟨ao, cap, rfl, hl, hm, -⟩ := h'
  obtain ⟨fo, fcap, rfl, -⟩ := hF
  unfold maxLen at hm
  dsimp only at h hl ⊢
  have A := Below.alloc1 w (.cells #[.slice ao L.length cap, .slice fo F.length fcap] 27)
  have HO := hide (ownV_alloc w #[.slice ao L.length cap, .slice fo F.length fcap] 27)
  have HC := hide h
  have HW := hide A
  have HBD := hide hbd
  have QB := hide fun V (hV : Below w.heap.size w V) => implBookOk_any _ _ (L, F) V ((unhide HBK).below hV)
  have QA : Hid (bookB (L, F) = true → ∀ V, Below w.heap.size w V → Calls Try.prog 48 #[vBook (.slice ao L.length cap) (.slice fo F.length fcap), .int .i64 id] V fun e w' => e = .returned (.tuple #[.int .i64 (plc L id : Nat), .bool (hasB L id)]) ∧ Below V.heap.size V w') := fun hb V hV => by
    have ha := up_asc (book_parts hb).2.1
    have := billAt_any _ _ (L, F) id V ((unhide HBK).below hV) (unhide HBD).1 ha
    rwa [at_has ha] at this
  have QH : Hid (bookB (L, F) = true → ∀ V, Below w.heap.size w V → Calls Try.prog 49 #[vBook (.slice ao L.length cap) (.slice fo F.length fcap), .int .i64 id] V fun e w' => e = .returned (.bool (F.contains id)) ∧ Below V.heap.size V w') := fun hb V hV =>
    isFreed_any _ _ (L, F) id V ((unhide HBK).below hV) (unhide HBD).2.1 (fr_asc (book_parts hb).2.2)
  have HNO := hide fun h => tit_no (b := (L, F)) (id := id) h
  have HYS := hide fun h x hx => tit_yes (b := (L, F)) (id := id) h (x := x) hx
  have HPL := hide fun h hh => place_of (b := (L, F)) (id := id) h hh
  clear A h hbd
  unfold vBook at QA QB QH ⊢
  dsimp only at QA QB QH HNO HYS HPL
  generalize titV (L, F) id = Z at *
  generalize bookB (L, F) = z1 at *
  generalize hasB L id = z2 at *
  generalize F.contains id = z3 at *
  obtain ⟨k, ek⟩ : ∃ k, k = plc L id := ⟨_, rfl⟩
  rw [← ek] at HPL HYS QA
  clear ek
  have q0 := (unhide HO).cell (i := 0) rfl
  have q1 := (unhide HO).cell (i := 1) rfl
  go_enter Try.func15, Try.ntmps15
  go_wp2_with fail
  refine (unhide QB _ (unhide HW)).mono ?_
  rintro e w1 ⟨rfl, hb⟩
  replace HW := hide (Below.step (unhide HW) hb)
  replace HO := hide ((unhide HO).step hb)
  clear hb QB q0 q1
  have q0 := (unhide HO).cell (i := 0) rfl
  have q1 := (unhide HO).cell (i := 1) rfl
  cases z1 with
  | false =>
    have hz := unhide HNO (by simp)
    subst hz
    clear QA QH HPL
    go_wp2
    go_ret2
    exact ⟨rfl, unhide HW⟩
  | true =>
    replace QA := hide (unhide QA (by simp))
    replace QH := hide (unhide QH (by simp))
    go_wp2_with fail
    refine (unhide QA _ (unhide HW)).mono ?_
    rintro e w2 ⟨rfl, hb⟩
    replace HW := hide (Below.step (unhide HW) hb)
    replace HO := hide ((unhide HO).step hb)
    clear hb QA q0 q1
    have q0 := (unhide HO).cell (i := 0) rfl
    have q1 := (unhide HO).cell (i := 1) rfl
    cases z2 with
    | false =>
      have hz := unhide HNO (by simp)
      subst hz
      go_wp2
      go_ret2
      exact ⟨rfl, unhide HW⟩
    | true =>
      obtain ⟨hp1, -, -⟩ := unhide HPL (by simp) (by simp)
      clear HPL
      go_wp2_with fail
      refine (unhide QH _ (unhide HW)).mono ?_
      rintro e w3 ⟨rfl, hb⟩
      replace HW := hide (Below.step (unhide HW) hb)
      replace HO := hide ((unhide HO).step hb)
      clear hb QH q0 q1
      have q0 := (unhide HO).cell (i := 0) rfl
      cases z3 with
      | true =>
        have hz := unhide HNO (by simp)
        subst hz
        go_wp2
        go_ret2
        exact ⟨rfl, unhide HW⟩
      | false =>
        have hH := (unhide HBD).held hp1
        obtain ⟨bb, o, na, nc, xi, sh, od, mn, H, m, rfl, hc0, hc1, hc2, hc3, hc4, hr, EX, EM, hm0⟩ := (unhide HC).at hp1
        dsimp only at hH
        rw [unhide EX] at hH
        dsimp only at hH
        have hz := unhide HYS (by simp) _ (unhide EX)
        dsimp only at hz
        subst hz
        have g0 := wcell3 hc0 (unhide HW)
        have g1 := wcell3 hc1 (unhide HW)
        have g2 := wcell3 hc2 (unhide HW)
        have g3 := wcell3 hc3 (unhide HW)
        have g4 := wcell3 hc4 (unhide HW)
        have hki : (k : Int) < L.length := by omega
        have QP := hide (paperOf_any xi sh od mn na m nc H w3 (hr.below (unhide HW)) (by rw [← unhide EM]; exact hH))
        unfold vBill at QP
        clear hc0 hc1 hc2 hc3 hc4 hr HNO HYS
        go_wp2_with fail
        refine (unhide QP).mono ?_
        rintro e w4 ⟨pg, rfl, hP, hb⟩
        replace HW := hide (Below.step (unhide HW) hb)
        have QT := hide (title_any _ pg od H w4 hP hH)
        clear hb QP hP
        go_wp2_with fail
        refine (unhide QT).mono ?_
        rintro e w5 ⟨rfl, h9⟩
        subst h9
        go_wp2
        go_ret2
        exact ⟨rfl, unhide HW⟩

end Go.Proofs.Ytmlnjfcokacjgaa
