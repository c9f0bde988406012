/- The specification's DrawAlarms: a rule and a list of numbers of the call's own. Written by wip/mkdal.py. -/
import Derived.Test.YtblkbonedgofiaaDrE
import Derived.Test.YtblkbonedgofiaaSgA
import Derived.Test.YtblkbonedgofiaaGrow
import Derived.Test.YtblkbonedgofiaaRecs
import Derived.Test.YtblkbonedgofiaaTwoR
import Derived.Maps.AppendAt
import Derived.Deep.AppendLies
namespace Go.Proofs.Ytblkbonedgofiaa
open Go.RowKit

theorem l1Size40_any (ao : Option Addr) (n cap : Nat) (w : World) (hn : n ≤ 1048576) :
    Calls Try.prog 43 #[.slice ao n cap, .int .i64 40] w fun e w' => ∃ x, e = .returned (.int .i64 x) ∧ 2 ≤ x ∧ x ≤ 40 ∧ w = w' := by
  by_cases h : 2 + (n : Int) / 20 ≤ 40
  · have h0 : 0 ≤ (n : Int) / 20 := by omega
    go_enter Try.func43, Try.ntmps43
    go_wp2
    go_ret
    exact ⟨_, rfl, by omega, by omega, rfl⟩
  · have h0 : 0 ≤ (n : Int) / 20 := by omega
    have h1 : (40 : Int) < 2 + (n : Int) / 20 := by omega
    go_enter Try.func43, Try.ntmps43
    go_wp2
    go_ret
    exact ⟨_, rfl, by omega, by omega, rfl⟩
theorem kept_pastE {T : Nat → Prop} {w w2 w3 : World} (h : Kept T w w2) (h' : Kept (fun b => w.heap.size ≤ b) w2 w3) : Kept T w w3 :=
  ⟨h'.os.trans h.os, h'.tape.trans h.tape, h'.output.trans h.output, Nat.le_trans h.size h'.size, fun k hk hT => (h'.block k (Nat.lt_of_lt_of_le hk h.size) (by omega)).trans (h.block k hk hT)⟩
theorem ownsRow_keptE {T : Nat → Prop} {w w' : World} {base n size : Nat} {e : TypeId} {v : Value} {xs : List Value} (h : w.ownsRow base e size v n xs) (hk : Kept T w w') (hT : ∀ k, base ≤ k → ¬ T k) : w'.ownsRow base e size v n xs := by
  obtain ⟨h1, h2⟩ := h
  refine ⟨h1, ?_⟩
  rcases h2 with h2 | ⟨g, cap, cur, hv, hg, hh, r⟩
  · exact Or.inl h2
  · obtain ⟨hlt, _⟩ := Array.getElem?_eq_some_iff.1 hh
    exact Or.inr ⟨g, cap, cur, hv, hg, (hk.block g hlt (hT g hg)).trans hh, r⟩
theorem ints_snocE (xs : List Int) (x : Int) : ints (xs ++ [x]) = ints xs ++ [.int .i64 x] := by simp [ints]
theorem Try.infoIntA : (Try.prog.info? 3).map (fun i => (i.zero, i.size, i.bytes)) = some (some (Value.int .i64 0), 1, 8) := by kernel_rfl
theorem ints_madeA (n : Nat) : (madeCells #[Value.int .i64 0] n).toList = ints (List.replicate n 0) := by
  apply List.ext_getElem?
  intro i
  by_cases h : i < n
  · simp [madeCells, ints, h, Nat.mod_one]
  · simp [madeCells, ints, h]

set_option maxRecDepth 100000 in
set_option maxHeartbeats 8000000 in
theorem drawAlarms_any (v : Value) (nb : Nat) (w : World) (h : BytesIn w.heap.size w v nb) (hn : nb ≤ 1048576) :
    Calls Try.prog 17 #[v] w fun e w' => ∃ (hi lo ho : Int) (xs : List Int) (a : Option Addr) (m cp : Nat), e = .returned (.tuple #[v3 (hi, lo, ho), .slice a m cp]) ∧ IntsIn w' (.slice a m cp) xs ∧ Below w.heap.size w w' := by
  obtain ⟨j0, hj, hy0, hy1, hy2⟩ := info_parts Try.infoIntA
  have HW := hide (Below.alloc1 w (.cells #[.int .i64 0, .int .i64 0, .int .i64 0] 34))
  have HQ := hide (ownV_alloc w #[.int .i64 0, .int .i64 0, .int .i64 0] 34)
  have HN := hide (l1New_any v nb (w.alloc (.cells #[.int .i64 0, .int .i64 0, .int .i64 0] 34)) (by have := h.below (unhide HW) (Nat.le_refl _); obtain ⟨ao, cap, e, h1, h2, h3⟩ := this; refine ⟨ao, cap, e, h1, h2, fun i hi => ?_⟩; obtain ⟨b, o, x, e1, e2, e3⟩ := h3 i hi; exact ⟨b, o, x, e1, by simp; omega, e3⟩) hn)
  obtain ⟨vao, vcap, rfl, -, -, -⟩ := h
  go_enter Try.func17, Try.ntmps17
  go_wp2_with fail
  refine (unhide HN).mono ?_
  rintro e w1 ⟨rfl, hc, hb, hsz1⟩
  replace HW := hide (Below.step (unhide HW) hb)
  replace HQ := hide ((unhide HQ).step hb)
  have HC := hide hc
  have hcl := hc.lt
  simp only [World.size_alloc] at HC hcl ⊢
  obtain ⟨cb, ecb⟩ : ∃ b, b = w.heap.size + 1 := ⟨_, rfl⟩
  obtain ⟨gq, egq⟩ : ∃ b, b = w.heap.size := ⟨_, rfl⟩
  rw [← ecb] at HC hcl
  rw [← egq] at HQ
  have HEQ := hide (And.intro ecb egq)
  have hq1 : w.heap.size ≤ gq := by omega
  have hq2 : gq < cb := by omega
  rw [show (Value.pointer (some ⟨w.heap.size + 1, 0, none⟩)) = Value.pointer (some ⟨cb, 0, none⟩) by rw [ecb], show (Value.pointer (some ⟨w.heap.size, 0, none⟩)) = Value.pointer (some ⟨gq, 0, none⟩) by rw [egq]]
  clear hc hb hsz1 HN ecb egq
  go_wp2_with fail
  refine (l1Below_any cb nb _ 9 _ (unhide HC) hn (by omega) (by omega)).mono ?_
  rintro e u1 ⟨ya, rfl, ya0, ya1, hc, hK⟩
  replace HW := hide ((unhide HW).trans (hK.below (B := w.heap.size) (unhide HW).size (fun b e => by omega)))
  replace HQ := hide ((unhide HQ).kept hK (by omega))
  replace HC := hide hc
  have hzz1 := hK.size
  clear hc hK
  go_wp2_with fail
  refine (l1Below_any cb nb _ 6 _ (unhide HC) hn (by omega) (by omega)).mono ?_
  rintro e u2 ⟨yb, rfl, yb0, yb1, hc, hK⟩
  replace HW := hide ((unhide HW).trans (hK.below (B := w.heap.size) (unhide HW).size (fun b e => by omega)))
  replace HQ := hide ((unhide HQ).kept hK (by omega))
  replace HC := hide hc
  have hzz2 := hK.size
  clear hc hK
  go_wp2_with fail
  refine (l1Below_any cb nb _ 4 _ (unhide HC) hn (by omega) (by omega)).mono ?_
  rintro e u3 ⟨yc, rfl, yc0, yc1, hc, hK⟩
  replace HW := hide ((unhide HW).trans (hK.below (B := w.heap.size) (unhide HW).size (fun b e => by omega)))
  replace HQ := hide ((unhide HQ).kept hK (by omega))
  replace HC := hide hc
  have hzz3 := hK.size
  clear hc hK
  have HX := hide (ownV_alloc u3 #[.int .i64 (ya + yb), .int .i64 ya, .int .i64 (1 + yc)] 34)
  have hcl2 := (unhide HC).lt
  have hql2 := (unhide HQ).lt
  replace HW := hide (Below.step (unhide HW) (Below.alloc1 u3 (.cells #[.int .i64 (ya + yb), .int .i64 ya, .int .i64 (1 + yc)] 34)))
  replace HQ := hide ((unhide HQ).step (Below.alloc1 u3 (.cells #[.int .i64 (ya + yb), .int .i64 ya, .int .i64 (1 + yc)] 34)))
  replace HC := hide ((unhide HC).below (Below.alloc1 u3 (.cells #[.int .i64 (ya + yb), .int .i64 ya, .int .i64 (1 + yc)] 34)))
  obtain ⟨gR, egR⟩ : ∃ b, b = u3.heap.size := ⟨_, rfl⟩
  rw [← egR] at HX
  have hR1 : cb < gR := by omega
  have hR2 : gq < gR := by omega
  have hR3 : ¬ gR = gq := by omega
  have hR4 : ¬ gq = gR := by omega
  go_wp2_with fail
  refine (l1Below_any cb nb _ 30 _ (unhide HC) hn (by omega) (by omega)).mono ?_
  rintro e u4 ⟨t, rfl, t0, t1, hc, hK⟩
  rw [← egR]
  clear egR
  replace HW := hide ((unhide HW).trans (hK.below (B := w.heap.size) (unhide HW).size (fun b e => by omega)))
  replace HQ := hide ((unhide HQ).kept hK (by omega))
  replace HC := hide hc
  replace HX := hide ((unhide HX).kept hK (by omega))
  have hzz4 := hK.size
  clear hc hK
  by_cases h0 : t = 0
  · subst h0
    have A1 := Below.alloc1 u4 (.cells #[.int .i64 (0), .int .i64 (100), .int .i64 (101)] 3)
    have HR := hide (ownV_alloc u4 #[.int .i64 (0), .int .i64 (100), .int .i64 (101)] 3)
    have hcz0 := (unhide HC).lt
    replace HC := hide ((unhide HC).below A1)
    replace HQ := hide ((unhide HQ).step A1)
    replace HX := hide ((unhide HX).step A1)
    replace HW := hide (Below.step (unhide HW) A1)
    have HP := hide (l1PickInt_any cb nb _ u4.heap.size 3 [0, 100, 101] _ (unhide HC) hn (unhide HR) (by omega) rfl (by omega) (by omega))
    clear A1 HR
    go_wp2_with fail
    refine (unhide HP).mono ?_
    rintro e ux ⟨px, rfl, hc, hK⟩
    replace HW := hide ((unhide HW).trans (hK.below (B := w.heap.size) (unhide HW).size (fun b e => by omega)))
    replace HQ := hide ((unhide HQ).kept hK (by omega))
    replace HC := hide hc
    replace HX := hide ((unhide HX).kept hK (by omega))
    have hzz5 := hK.size
    clear hc hK
    have hf := (unhide HX).frozen
    have hu0 := (unhide HX).cell (i := 2) rfl
    have hKs : Kept (fun b => b = gR) ux (ux.setCell ⟨gR, 2, none⟩ (.int .i64 (px))) := Kept.setCell (T := fun b => b = gR) (Kept.refl _ _) (p := ⟨gR, 2, none⟩) rfl _
    replace HX := hide ((unhide HX).set 2 (.int .i64 (px)) (by simp))
    replace HQ := hide ((unhide HQ).kept hKs (by omega))
    replace HC := hide ((unhide HC).kept hKs (fun b e => by omega))
    replace HW := hide ((unhide HW).trans (hKs.below (B := w.heap.size) (unhide HW).size (fun b e => by omega)))
    clear hKs
    have A1 := Below.alloc1 (ux.setCell ⟨gR, 2, none⟩ (.int .i64 px)) (.cells #[] 3)
    have ez : (ux.setCell ⟨gR, 2, none⟩ (.int .i64 px)).heap.size = ux.heap.size := by first | rfl | simp only [World.size_setCell]
    have HO : Hid (((ux.setCell ⟨gR, 2, none⟩ (.int .i64 px)).alloc (.cells #[] 3)).ownsRow (ux.setCell ⟨gR, 2, none⟩ (.int .i64 px)).heap.size 3 1 (.slice (some ⟨(ux.setCell ⟨gR, 2, none⟩ (.int .i64 px)).heap.size, 0, none⟩) 0 0) 0 (ints [])) :=
      ⟨rfl, Or.inr ⟨(ux.setCell ⟨gR, 2, none⟩ (.int .i64 px)).heap.size, 0, #[], rfl, Nat.le_refl _, Go.Deep.blk_alloc_new _ _, Nat.le_refl _, Nat.zero_le _, rfl, rfl⟩⟩
    have hcz := (unhide HC).lt
    have hxz := (unhide HX).lt
    have hqz := (unhide HQ).lt
    have hwz := (unhide HW).size
    rw [ez] at HO hcz hxz hqz hwz
    replace HC := hide ((unhide HC).below A1)
    replace HQ := hide ((unhide HQ).step A1)
    replace HX := hide ((unhide HX).step A1)
    replace HW := hide (Below.step (unhide HW) A1)
    clear A1
    have EZ := hide ez
    clear ez
    go_wp2_with (go_at_call 43; refine (l1Size40_any vao nb vcap _ hn).mono ?_; rintro e w' ⟨sz, rfl, hs0, hs1, rfl⟩)
    refine (l1Below_any cb nb _ (2 * sz) _ (unhide HC) hn (by omega) (by omega)).mono ?_
    rintro e wl ⟨m, rfl, hm0, hm1, hc, hK⟩
    obtain ⟨M, rfl⟩ : ∃ M : Nat, m = M := ⟨m.toNat, by omega⟩
    replace HO := hide (ownsRow_keptE (unhide HO) hK (fun k hk e => by omega))
    have hM : M < 80 := by omega
    have hzw := hK.size
    rw [World.size_alloc, unhide EZ] at hzw
    replace HW := hide ((unhide HW).trans (hK.below (B := w.heap.size) (unhide HW).size (fun b e => by omega)))
    replace HQ := hide ((unhide HQ).kept hK (by omega))
    replace HC := hide hc
    replace HX := hide ((unhide HX).kept hK (by omega))
    have hzz6 := hK.size
    clear hc hK
    have HK := hide (Kept.refl (fun b => b = cb ∨ ux.heap.size ≤ b) wl)
    clear hm0 hm1 hs0 hs1
    go_wp2
    go_loopg [7, 8] M (fun g ov iv wr => ∃ xs : List Int, iv = .int .i64 (g : Int) ∧ xs.length + g ≤ 80 ∧ Hid (wr.ownsRow ux.heap.size 3 1 ov xs.length (ints xs)) ∧ Hid (Cur wr cb (.slice vao nb vcap) nb) ∧ Hid (Kept (fun b => b = cb ∨ ux.heap.size ≤ b) wl wr))
    case atStart => exact ⟨[], rfl, by simp; omega, HO, HC, HK⟩
    case round =>
      clear HO HC HK hM
      obtain ⟨xs, rfl, hl, HO, HC, HK⟩ := hrel
      obtain ⟨_, sa, sc, rfl⟩ := ownsRow_ownSl (unhide HO)
      by_cases hg : 0 < gk
      · have hgi : (0 : Int) < gk := by omega
        go_wp2_with fail
        refine (l1Below_any cb nb _ 18 _ (unhide HC) hn (by omega) (by omega)).mono ?_
        rintro e w2 ⟨x, rfl, hx0, hx1, hc, hK⟩
        replace HO := hide (ownsRow_keptE (unhide HO) hK (fun k hk e => by omega))
        replace HC := hide hc
        replace HK := hide ((unhide HK).trans (hK.mono (fun k _ e => Or.inl e)))
        have hz := (unhide HK).size
        have hz2 : ux.heap.size ≤ w2.heap.size := by omega
        clear hc hK
        go_wp2_with (at_builtin; go_must (refine wpList_append_own_at _ rfl _ _ 35 rfl ux.heap.size 3 j0 (.int .i64 0) 1 8 Try.underlying35 hj hy0 hy1 hy2 rfl (by decide) (.slice sa xs.length sc) xs.length (ints xs) rfl ((unhide HO).alloc _) ⟨w2.heap.size, 0, none⟩ 1 1 [.int .i64 (x - 1)] rfl rfl (cell_one_new _ _ _) (by simp [Value.oneCell']) (by unfold maxLen; omega) (by omega) (by simp; omega) ?_; intro v' w3 hown hgrow _ hat; have HO3 : Hid (w3.ownsRow ux.heap.size 3 1 v' (xs ++ [x - 1]).length (ints (xs ++ [x - 1]))) := hide (by rw [ints_snocE]; simpa using hown); have HK3 : Hid (Kept (fun b => ux.heap.size ≤ b) w2 w3) := (kept_of_below (Below.alloc1 w2 _)).trans ⟨hgrow.os, hgrow.tape, hgrow.output, hgrow.size, fun k hk hn => hgrow.block k hk (fun e => hn ((unhide HO).lt k e.symm).1)⟩; clear hown hgrow hat))
        go_roundg (gk - 1)
        case measure => omega
        case rel => exact ⟨xs ++ [x - 1], by congr 1; omega, by simp; omega, HO3, (unhide HC).kept (unhide HK3) (fun b hb => by omega), (unhide HK).trans ((unhide HK3).mono (fun k _ e => Or.inr e))⟩
      · have hgi : decide ((0 : Int) < (gk : Int)) = false := by simp; omega
        go_wp2_with fail
        refine (l1Once_any cb nb _ 60 _ (unhide HC) hn (by omega) (by omega)).mono ?_
        rintro e w2 ⟨on, rfl, hc, hK⟩
        replace HO := hide (ownsRow_keptE (unhide HO) hK (fun k hk e => by omega))
        replace HC := hide hc
        replace HK := hide ((unhide HK).trans (hK.mono (fun k _ e => Or.inl e)))
        clear hc hK
        replace HQ := hide ((unhide HQ).kept (unhide HK) (by omega))
        replace HX := hide ((unhide HX).kept (unhide HK) (by omega))
        replace HW := hide ((unhide HW).trans ((unhide HK).below (B := w.heap.size) (unhide HW).size (fun b e => by omega)))
        clear HK
        cases on with
        | false =>
          have x0 := (unhide HX).cell (i := 0) rfl
          have x1 := (unhide HX).cell (i := 1) rfl
          have x2 := (unhide HX).cell (i := 2) rfl
          have q0 := (unhide HQ).cell (i := 0) rfl
          have q1 := (unhide HQ).cell (i := 1) rfl
          have q2 := (unhide HQ).cell (i := 2) rfl
          have qf := (unhide HQ).frozen
          have HKq : Hid (Kept (fun b => b = gq) (w2) ((((w2).setCell ⟨gq, 0, none⟩ (.int .i64 (ya + yb))).setCell ⟨gq, 1, none⟩ (.int .i64 (ya))).setCell ⟨gq, 2, none⟩ (.int .i64 (px)))) :=
            Kept.setCell (T := fun b => b = gq) (Kept.setCell (T := fun b => b = gq) (Kept.setCell (T := fun b => b = gq) (Kept.refl _ _) (p := ⟨gq, 0, none⟩) rfl _) (p := ⟨gq, 1, none⟩) rfl _) (p := ⟨gq, 2, none⟩) rfl _
          replace HW := hide ((unhide HW).trans ((unhide HKq).below (B := w.heap.size) (unhide HW).size (fun b e => by omega)))
          go_wp2
          refine bodyPost_ret (v := .tuple #[v3 (ya + yb, ya, px), .slice sa xs.length sc]) (by simp [results, Try.results17, go_sem, v3, q0, q1, q2]) rfl ⟨ya + yb, ya, px, xs, _, _, _, rfl, (ownsRow_ownSl (ownsRow_keptE (unhide HO) (unhide HKq) (fun k hk e => by omega))).1.upto.inn, unhide HW⟩
        | true =>
          go_wp2_with fail
          refine (l1Below_any cb nb _ 2 _ (unhide HC) hn (by omega) (by omega)).mono ?_
          rintro e w3 ⟨y, rfl, hy3, hy4, hc, hK⟩
          replace HQ := hide ((unhide HQ).kept hK (by omega))
          replace HX := hide ((unhide HX).kept hK (by omega))
          replace HW := hide ((unhide HW).trans (hK.below (B := w.heap.size) (unhide HW).size (fun b e => by omega)))
          obtain ⟨N, eN⟩ : ∃ N : Nat, (N : Int) = 500 + y := ⟨(500 + y).toNat, by omega⟩
          have hmk := run_make_row' (P := Try.prog) 35 3 (.int .i64 0) 8 Try.underlying35 Try.info3 rfl .i64 .i64 N (by omega) (by omega)
          rw [eN] at hmk
          have hN : N ≤ 501 := by omega
          have hql := (unhide HQ).lt
          have hxl := (unhide HX).lt
          have qf3 := (unhide HQ).frozen
          have y0 := (unhide HX).cell (i := 0) rfl
          have y1 := (unhide HX).cell (i := 1) rfl
          have y2 := (unhide HX).cell (i := 2) rfl
          have z0 := (unhide HQ).cell (i := 0) rfl
          have z1 := (unhide HQ).cell (i := 1) rfl
          have z2 := (unhide HQ).cell (i := 2) rfl
          clear hc hK HC HO
          have HKq : Hid (Kept (fun b => b = gq) w3 (((w3.setCell ⟨gq, 0, none⟩ (.int .i64 (ya + yb))).setCell ⟨gq, 1, none⟩ (.int .i64 (ya))).setCell ⟨gq, 2, none⟩ (.int .i64 (px)))) :=
            Kept.setCell (T := fun b => b = gq) (Kept.setCell (T := fun b => b = gq) (Kept.setCell (T := fun b => b = gq) (Kept.refl _ _) (p := ⟨gq, 0, none⟩) rfl _) (p := ⟨gq, 1, none⟩) rfl _) (p := ⟨gq, 2, none⟩) rfl _
          have HQ3 : Hid (OwnV (((w3.setCell ⟨gq, 0, none⟩ (.int .i64 (ya + yb))).setCell ⟨gq, 1, none⟩ (.int .i64 (ya))).setCell ⟨gq, 2, none⟩ (.int .i64 (px))) gq [.int .i64 (ya + yb), .int .i64 (ya), .int .i64 (px)]) := (((unhide HQ).set 0 (.int .i64 (ya + yb)) (by simp)).set 1 (.int .i64 (ya)) (by simp)).set 2 (.int .i64 (px)) (by simp)
          have A1 := Below.alloc1 (((w3.setCell ⟨gq, 0, none⟩ (.int .i64 (ya + yb))).setCell ⟨gq, 1, none⟩ (.int .i64 (ya))).setCell ⟨gq, 2, none⟩ (.int .i64 (px))) (.cells (madeCells #[.int .i64 0] N) 3)
          have r0 := ((unhide HQ3).step A1).cell (i := 0) rfl
          have r1 := ((unhide HQ3).step A1).cell (i := 1) rfl
          have r2 := ((unhide HQ3).step A1).cell (i := 2) rfl
          have HA := hide (ownV_alloc (((w3.setCell ⟨gq, 0, none⟩ (.int .i64 (ya + yb))).setCell ⟨gq, 1, none⟩ (.int .i64 (ya))).setCell ⟨gq, 2, none⟩ (.int .i64 (px))) (madeCells #[.int .i64 0] N) 3)
          rw [ints_madeA] at HA
          simp only [World.size_setCell] at HA
          replace HW := hide (Below.step ((unhide HW).trans ((unhide HKq).below (B := w.heap.size) (unhide HW).size (fun b e => by omega))) A1)
          clear A1
          go_wp2
          refine bodyPost_ret (v := .tuple #[v3 (ya + yb, ya, px), .slice (some ⟨w3.heap.size, 0, none⟩) N N]) (by simp [results, Try.results17, go_sem, v3, r0, r1, r2]) rfl ⟨ya + yb, ya, px, List.replicate N 0, _, _, _, rfl, by have := (unhide HA).intsIn (cap := N) (by simp) (by unfold maxLen; omega); simpa using this, unhide HW⟩
  · have e0 : (t == 0) = false := by rw [beq_eq_false_iff_ne]; exact h0
    by_cases h1 : t = 1
    · subst h1
      have A1 := Below.alloc1 u4 (.cells #[.int .i64 (-1000001), .int .i64 (ya - 1), .int .i64 (1000001), .int .i64 (1000000)] 3)
      have HR := hide (ownV_alloc u4 #[.int .i64 (-1000001), .int .i64 (ya - 1), .int .i64 (1000001), .int .i64 (1000000)] 3)
      have hcz0 := (unhide HC).lt
      replace HC := hide ((unhide HC).below A1)
      replace HQ := hide ((unhide HQ).step A1)
      replace HX := hide ((unhide HX).step A1)
      replace HW := hide (Below.step (unhide HW) A1)
      have HP := hide (l1PickInt_any cb nb _ u4.heap.size 4 [-1000001, ya - 1, 1000001, 1000000] _ (unhide HC) hn (unhide HR) (by omega) rfl (by omega) (by omega))
      clear A1 HR
      go_wp2_with fail
      refine (unhide HP).mono ?_
      rintro e ux ⟨px, rfl, hc, hK⟩
      replace HW := hide ((unhide HW).trans (hK.below (B := w.heap.size) (unhide HW).size (fun b e => by omega)))
      replace HQ := hide ((unhide HQ).kept hK (by omega))
      replace HC := hide hc
      replace HX := hide ((unhide HX).kept hK (by omega))
      have hzz7 := hK.size
      clear hc hK
      have hf := (unhide HX).frozen
      have hu0 := (unhide HX).cell (i := 0) rfl
      have hKs : Kept (fun b => b = gR) ux (ux.setCell ⟨gR, 0, none⟩ (.int .i64 (px))) := Kept.setCell (T := fun b => b = gR) (Kept.refl _ _) (p := ⟨gR, 0, none⟩) rfl _
      replace HX := hide ((unhide HX).set 0 (.int .i64 (px)) (by simp))
      replace HQ := hide ((unhide HQ).kept hKs (by omega))
      replace HC := hide ((unhide HC).kept hKs (fun b e => by omega))
      replace HW := hide ((unhide HW).trans (hKs.below (B := w.heap.size) (unhide HW).size (fun b e => by omega)))
      clear hKs
      have A1 := Below.alloc1 (ux.setCell ⟨gR, 0, none⟩ (.int .i64 px)) (.cells #[] 3)
      have ez : (ux.setCell ⟨gR, 0, none⟩ (.int .i64 px)).heap.size = ux.heap.size := by first | rfl | simp only [World.size_setCell]
      have HO : Hid (((ux.setCell ⟨gR, 0, none⟩ (.int .i64 px)).alloc (.cells #[] 3)).ownsRow (ux.setCell ⟨gR, 0, none⟩ (.int .i64 px)).heap.size 3 1 (.slice (some ⟨(ux.setCell ⟨gR, 0, none⟩ (.int .i64 px)).heap.size, 0, none⟩) 0 0) 0 (ints [])) :=
        ⟨rfl, Or.inr ⟨(ux.setCell ⟨gR, 0, none⟩ (.int .i64 px)).heap.size, 0, #[], rfl, Nat.le_refl _, Go.Deep.blk_alloc_new _ _, Nat.le_refl _, Nat.zero_le _, rfl, rfl⟩⟩
      have hcz := (unhide HC).lt
      have hxz := (unhide HX).lt
      have hqz := (unhide HQ).lt
      have hwz := (unhide HW).size
      rw [ez] at HO hcz hxz hqz hwz
      replace HC := hide ((unhide HC).below A1)
      replace HQ := hide ((unhide HQ).step A1)
      replace HX := hide ((unhide HX).step A1)
      replace HW := hide (Below.step (unhide HW) A1)
      clear A1
      have EZ := hide ez
      clear ez
      go_wp2_with (go_at_call 43; refine (l1Size40_any vao nb vcap _ hn).mono ?_; rintro e w' ⟨sz, rfl, hs0, hs1, rfl⟩)
      refine (l1Below_any cb nb _ (2 * sz) _ (unhide HC) hn (by omega) (by omega)).mono ?_
      rintro e wl ⟨m, rfl, hm0, hm1, hc, hK⟩
      obtain ⟨M, rfl⟩ : ∃ M : Nat, m = M := ⟨m.toNat, by omega⟩
      replace HO := hide (ownsRow_keptE (unhide HO) hK (fun k hk e => by omega))
      have hM : M < 80 := by omega
      have hzw := hK.size
      rw [World.size_alloc, unhide EZ] at hzw
      replace HW := hide ((unhide HW).trans (hK.below (B := w.heap.size) (unhide HW).size (fun b e => by omega)))
      replace HQ := hide ((unhide HQ).kept hK (by omega))
      replace HC := hide hc
      replace HX := hide ((unhide HX).kept hK (by omega))
      have hzz8 := hK.size
      clear hc hK
      have HK := hide (Kept.refl (fun b => b = cb ∨ ux.heap.size ≤ b) wl)
      clear hm0 hm1 hs0 hs1
      go_wp2
      go_loopg [7, 8] M (fun g ov iv wr => ∃ xs : List Int, iv = .int .i64 (g : Int) ∧ xs.length + g ≤ 80 ∧ Hid (wr.ownsRow ux.heap.size 3 1 ov xs.length (ints xs)) ∧ Hid (Cur wr cb (.slice vao nb vcap) nb) ∧ Hid (Kept (fun b => b = cb ∨ ux.heap.size ≤ b) wl wr))
      case atStart => exact ⟨[], rfl, by simp; omega, HO, HC, HK⟩
      case round =>
        clear HO HC HK hM
        obtain ⟨xs, rfl, hl, HO, HC, HK⟩ := hrel
        obtain ⟨_, sa, sc, rfl⟩ := ownsRow_ownSl (unhide HO)
        by_cases hg : 0 < gk
        · have hgi : (0 : Int) < gk := by omega
          go_wp2_with fail
          refine (l1Below_any cb nb _ 18 _ (unhide HC) hn (by omega) (by omega)).mono ?_
          rintro e w2 ⟨x, rfl, hx0, hx1, hc, hK⟩
          replace HO := hide (ownsRow_keptE (unhide HO) hK (fun k hk e => by omega))
          replace HC := hide hc
          replace HK := hide ((unhide HK).trans (hK.mono (fun k _ e => Or.inl e)))
          have hz := (unhide HK).size
          have hz2 : ux.heap.size ≤ w2.heap.size := by omega
          clear hc hK
          go_wp2_with (at_builtin; go_must (refine wpList_append_own_at _ rfl _ _ 35 rfl ux.heap.size 3 j0 (.int .i64 0) 1 8 Try.underlying35 hj hy0 hy1 hy2 rfl (by decide) (.slice sa xs.length sc) xs.length (ints xs) rfl ((unhide HO).alloc _) ⟨w2.heap.size, 0, none⟩ 1 1 [.int .i64 (x - 1)] rfl rfl (cell_one_new _ _ _) (by simp [Value.oneCell']) (by unfold maxLen; omega) (by omega) (by simp; omega) ?_; intro v' w3 hown hgrow _ hat; have HO3 : Hid (w3.ownsRow ux.heap.size 3 1 v' (xs ++ [x - 1]).length (ints (xs ++ [x - 1]))) := hide (by rw [ints_snocE]; simpa using hown); have HK3 : Hid (Kept (fun b => ux.heap.size ≤ b) w2 w3) := (kept_of_below (Below.alloc1 w2 _)).trans ⟨hgrow.os, hgrow.tape, hgrow.output, hgrow.size, fun k hk hn => hgrow.block k hk (fun e => hn ((unhide HO).lt k e.symm).1)⟩; clear hown hgrow hat))
          go_roundg (gk - 1)
          case measure => omega
          case rel => exact ⟨xs ++ [x - 1], by congr 1; omega, by simp; omega, HO3, (unhide HC).kept (unhide HK3) (fun b hb => by omega), (unhide HK).trans ((unhide HK3).mono (fun k _ e => Or.inr e))⟩
        · have hgi : decide ((0 : Int) < (gk : Int)) = false := by simp; omega
          go_wp2_with fail
          refine (l1Once_any cb nb _ 60 _ (unhide HC) hn (by omega) (by omega)).mono ?_
          rintro e w2 ⟨on, rfl, hc, hK⟩
          replace HO := hide (ownsRow_keptE (unhide HO) hK (fun k hk e => by omega))
          replace HC := hide hc
          replace HK := hide ((unhide HK).trans (hK.mono (fun k _ e => Or.inl e)))
          clear hc hK
          replace HQ := hide ((unhide HQ).kept (unhide HK) (by omega))
          replace HX := hide ((unhide HX).kept (unhide HK) (by omega))
          replace HW := hide ((unhide HW).trans ((unhide HK).below (B := w.heap.size) (unhide HW).size (fun b e => by omega)))
          clear HK
          cases on with
          | false =>
            have x0 := (unhide HX).cell (i := 0) rfl
            have x1 := (unhide HX).cell (i := 1) rfl
            have x2 := (unhide HX).cell (i := 2) rfl
            have q0 := (unhide HQ).cell (i := 0) rfl
            have q1 := (unhide HQ).cell (i := 1) rfl
            have q2 := (unhide HQ).cell (i := 2) rfl
            have qf := (unhide HQ).frozen
            have HKq : Hid (Kept (fun b => b = gq) (w2) ((((w2).setCell ⟨gq, 0, none⟩ (.int .i64 (px))).setCell ⟨gq, 1, none⟩ (.int .i64 (ya))).setCell ⟨gq, 2, none⟩ (.int .i64 (1 + yc)))) :=
              Kept.setCell (T := fun b => b = gq) (Kept.setCell (T := fun b => b = gq) (Kept.setCell (T := fun b => b = gq) (Kept.refl _ _) (p := ⟨gq, 0, none⟩) rfl _) (p := ⟨gq, 1, none⟩) rfl _) (p := ⟨gq, 2, none⟩) rfl _
            replace HW := hide ((unhide HW).trans ((unhide HKq).below (B := w.heap.size) (unhide HW).size (fun b e => by omega)))
            go_wp2
            refine bodyPost_ret (v := .tuple #[v3 (px, ya, 1 + yc), .slice sa xs.length sc]) (by simp [results, Try.results17, go_sem, v3, q0, q1, q2]) rfl ⟨px, ya, 1 + yc, xs, _, _, _, rfl, (ownsRow_ownSl (ownsRow_keptE (unhide HO) (unhide HKq) (fun k hk e => by omega))).1.upto.inn, unhide HW⟩
          | true =>
            go_wp2_with fail
            refine (l1Below_any cb nb _ 2 _ (unhide HC) hn (by omega) (by omega)).mono ?_
            rintro e w3 ⟨y, rfl, hy3, hy4, hc, hK⟩
            replace HQ := hide ((unhide HQ).kept hK (by omega))
            replace HX := hide ((unhide HX).kept hK (by omega))
            replace HW := hide ((unhide HW).trans (hK.below (B := w.heap.size) (unhide HW).size (fun b e => by omega)))
            obtain ⟨N, eN⟩ : ∃ N : Nat, (N : Int) = 500 + y := ⟨(500 + y).toNat, by omega⟩
            have hmk := run_make_row' (P := Try.prog) 35 3 (.int .i64 0) 8 Try.underlying35 Try.info3 rfl .i64 .i64 N (by omega) (by omega)
            rw [eN] at hmk
            have hN : N ≤ 501 := by omega
            have hql := (unhide HQ).lt
            have hxl := (unhide HX).lt
            have qf3 := (unhide HQ).frozen
            have y0 := (unhide HX).cell (i := 0) rfl
            have y1 := (unhide HX).cell (i := 1) rfl
            have y2 := (unhide HX).cell (i := 2) rfl
            have z0 := (unhide HQ).cell (i := 0) rfl
            have z1 := (unhide HQ).cell (i := 1) rfl
            have z2 := (unhide HQ).cell (i := 2) rfl
            clear hc hK HC HO
            have HKq : Hid (Kept (fun b => b = gq) w3 (((w3.setCell ⟨gq, 0, none⟩ (.int .i64 (px))).setCell ⟨gq, 1, none⟩ (.int .i64 (ya))).setCell ⟨gq, 2, none⟩ (.int .i64 (1 + yc)))) :=
              Kept.setCell (T := fun b => b = gq) (Kept.setCell (T := fun b => b = gq) (Kept.setCell (T := fun b => b = gq) (Kept.refl _ _) (p := ⟨gq, 0, none⟩) rfl _) (p := ⟨gq, 1, none⟩) rfl _) (p := ⟨gq, 2, none⟩) rfl _
            have HQ3 : Hid (OwnV (((w3.setCell ⟨gq, 0, none⟩ (.int .i64 (px))).setCell ⟨gq, 1, none⟩ (.int .i64 (ya))).setCell ⟨gq, 2, none⟩ (.int .i64 (1 + yc))) gq [.int .i64 (px), .int .i64 (ya), .int .i64 (1 + yc)]) := (((unhide HQ).set 0 (.int .i64 (px)) (by simp)).set 1 (.int .i64 (ya)) (by simp)).set 2 (.int .i64 (1 + yc)) (by simp)
            have A1 := Below.alloc1 (((w3.setCell ⟨gq, 0, none⟩ (.int .i64 (px))).setCell ⟨gq, 1, none⟩ (.int .i64 (ya))).setCell ⟨gq, 2, none⟩ (.int .i64 (1 + yc))) (.cells (madeCells #[.int .i64 0] N) 3)
            have r0 := ((unhide HQ3).step A1).cell (i := 0) rfl
            have r1 := ((unhide HQ3).step A1).cell (i := 1) rfl
            have r2 := ((unhide HQ3).step A1).cell (i := 2) rfl
            have HA := hide (ownV_alloc (((w3.setCell ⟨gq, 0, none⟩ (.int .i64 (px))).setCell ⟨gq, 1, none⟩ (.int .i64 (ya))).setCell ⟨gq, 2, none⟩ (.int .i64 (1 + yc))) (madeCells #[.int .i64 0] N) 3)
            rw [ints_madeA] at HA
            simp only [World.size_setCell] at HA
            replace HW := hide (Below.step ((unhide HW).trans ((unhide HKq).below (B := w.heap.size) (unhide HW).size (fun b e => by omega))) A1)
            clear A1
            go_wp2
            refine bodyPost_ret (v := .tuple #[v3 (px, ya, 1 + yc), .slice (some ⟨w3.heap.size, 0, none⟩) N N]) (by simp [results, Try.results17, go_sem, v3, r0, r1, r2]) rfl ⟨px, ya, 1 + yc, List.replicate N 0, _, _, _, rfl, by have := (unhide HA).intsIn (cap := N) (by simp) (by unfold maxLen; omega); simpa using this, unhide HW⟩
    · have e1 : (t == 1) = false := by rw [beq_eq_false_iff_ne]; exact h1
      by_cases h2 : t = 2
      · subst h2
        go_wp2_with fail
        refine (l1Below_any cb nb _ 2 _ (unhide HC) hn (by omega) (by omega)).mono ?_
        rintro e ux ⟨px, rfl, px0, px1, hc, hK⟩
        replace HW := hide ((unhide HW).trans (hK.below (B := w.heap.size) (unhide HW).size (fun b e => by omega)))
        replace HQ := hide ((unhide HQ).kept hK (by omega))
        replace HC := hide hc
        replace HX := hide ((unhide HX).kept hK (by omega))
        have hzz9 := hK.size
        clear hc hK
        have hf := (unhide HX).frozen
        have hu0 := (unhide HX).cell (i := 1) rfl
        have hKs : Kept (fun b => b = gR) ux (ux.setCell ⟨gR, 1, none⟩ (.int .i64 (-1000001 + px))) := Kept.setCell (T := fun b => b = gR) (Kept.refl _ _) (p := ⟨gR, 1, none⟩) rfl _
        replace HX := hide ((unhide HX).set 1 (.int .i64 (-1000001 + px)) (by simp))
        replace HQ := hide ((unhide HQ).kept hKs (by omega))
        replace HC := hide ((unhide HC).kept hKs (fun b e => by omega))
        replace HW := hide ((unhide HW).trans (hKs.below (B := w.heap.size) (unhide HW).size (fun b e => by omega)))
        clear hKs
        have A1 := Below.alloc1 (ux.setCell ⟨gR, 1, none⟩ (.int .i64 (-1000001 + px))) (.cells #[] 3)
        have ez : (ux.setCell ⟨gR, 1, none⟩ (.int .i64 (-1000001 + px))).heap.size = ux.heap.size := by first | rfl | simp only [World.size_setCell]
        have HO : Hid (((ux.setCell ⟨gR, 1, none⟩ (.int .i64 (-1000001 + px))).alloc (.cells #[] 3)).ownsRow (ux.setCell ⟨gR, 1, none⟩ (.int .i64 (-1000001 + px))).heap.size 3 1 (.slice (some ⟨(ux.setCell ⟨gR, 1, none⟩ (.int .i64 (-1000001 + px))).heap.size, 0, none⟩) 0 0) 0 (ints [])) :=
          ⟨rfl, Or.inr ⟨(ux.setCell ⟨gR, 1, none⟩ (.int .i64 (-1000001 + px))).heap.size, 0, #[], rfl, Nat.le_refl _, Go.Deep.blk_alloc_new _ _, Nat.le_refl _, Nat.zero_le _, rfl, rfl⟩⟩
        have hcz := (unhide HC).lt
        have hxz := (unhide HX).lt
        have hqz := (unhide HQ).lt
        have hwz := (unhide HW).size
        rw [ez] at HO hcz hxz hqz hwz
        replace HC := hide ((unhide HC).below A1)
        replace HQ := hide ((unhide HQ).step A1)
        replace HX := hide ((unhide HX).step A1)
        replace HW := hide (Below.step (unhide HW) A1)
        clear A1
        have EZ := hide ez
        clear ez
        go_wp2_with (go_at_call 43; refine (l1Size40_any vao nb vcap _ hn).mono ?_; rintro e w' ⟨sz, rfl, hs0, hs1, rfl⟩)
        refine (l1Below_any cb nb _ (2 * sz) _ (unhide HC) hn (by omega) (by omega)).mono ?_
        rintro e wl ⟨m, rfl, hm0, hm1, hc, hK⟩
        obtain ⟨M, rfl⟩ : ∃ M : Nat, m = M := ⟨m.toNat, by omega⟩
        replace HO := hide (ownsRow_keptE (unhide HO) hK (fun k hk e => by omega))
        have hM : M < 80 := by omega
        have hzw := hK.size
        rw [World.size_alloc, unhide EZ] at hzw
        replace HW := hide ((unhide HW).trans (hK.below (B := w.heap.size) (unhide HW).size (fun b e => by omega)))
        replace HQ := hide ((unhide HQ).kept hK (by omega))
        replace HC := hide hc
        replace HX := hide ((unhide HX).kept hK (by omega))
        have hzz10 := hK.size
        clear hc hK
        have HK := hide (Kept.refl (fun b => b = cb ∨ ux.heap.size ≤ b) wl)
        clear hm0 hm1 hs0 hs1
        go_wp2
        go_loopg [7, 8] M (fun g ov iv wr => ∃ xs : List Int, iv = .int .i64 (g : Int) ∧ xs.length + g ≤ 80 ∧ Hid (wr.ownsRow ux.heap.size 3 1 ov xs.length (ints xs)) ∧ Hid (Cur wr cb (.slice vao nb vcap) nb) ∧ Hid (Kept (fun b => b = cb ∨ ux.heap.size ≤ b) wl wr))
        case atStart => exact ⟨[], rfl, by simp; omega, HO, HC, HK⟩
        case round =>
          clear HO HC HK hM
          obtain ⟨xs, rfl, hl, HO, HC, HK⟩ := hrel
          obtain ⟨_, sa, sc, rfl⟩ := ownsRow_ownSl (unhide HO)
          by_cases hg : 0 < gk
          · have hgi : (0 : Int) < gk := by omega
            go_wp2_with fail
            refine (l1Below_any cb nb _ 18 _ (unhide HC) hn (by omega) (by omega)).mono ?_
            rintro e w2 ⟨x, rfl, hx0, hx1, hc, hK⟩
            replace HO := hide (ownsRow_keptE (unhide HO) hK (fun k hk e => by omega))
            replace HC := hide hc
            replace HK := hide ((unhide HK).trans (hK.mono (fun k _ e => Or.inl e)))
            have hz := (unhide HK).size
            have hz2 : ux.heap.size ≤ w2.heap.size := by omega
            clear hc hK
            go_wp2_with (at_builtin; go_must (refine wpList_append_own_at _ rfl _ _ 35 rfl ux.heap.size 3 j0 (.int .i64 0) 1 8 Try.underlying35 hj hy0 hy1 hy2 rfl (by decide) (.slice sa xs.length sc) xs.length (ints xs) rfl ((unhide HO).alloc _) ⟨w2.heap.size, 0, none⟩ 1 1 [.int .i64 (x - 1)] rfl rfl (cell_one_new _ _ _) (by simp [Value.oneCell']) (by unfold maxLen; omega) (by omega) (by simp; omega) ?_; intro v' w3 hown hgrow _ hat; have HO3 : Hid (w3.ownsRow ux.heap.size 3 1 v' (xs ++ [x - 1]).length (ints (xs ++ [x - 1]))) := hide (by rw [ints_snocE]; simpa using hown); have HK3 : Hid (Kept (fun b => ux.heap.size ≤ b) w2 w3) := (kept_of_below (Below.alloc1 w2 _)).trans ⟨hgrow.os, hgrow.tape, hgrow.output, hgrow.size, fun k hk hn => hgrow.block k hk (fun e => hn ((unhide HO).lt k e.symm).1)⟩; clear hown hgrow hat))
            go_roundg (gk - 1)
            case measure => omega
            case rel => exact ⟨xs ++ [x - 1], by congr 1; omega, by simp; omega, HO3, (unhide HC).kept (unhide HK3) (fun b hb => by omega), (unhide HK).trans ((unhide HK3).mono (fun k _ e => Or.inr e))⟩
          · have hgi : decide ((0 : Int) < (gk : Int)) = false := by simp; omega
            go_wp2_with fail
            refine (l1Once_any cb nb _ 60 _ (unhide HC) hn (by omega) (by omega)).mono ?_
            rintro e w2 ⟨on, rfl, hc, hK⟩
            replace HO := hide (ownsRow_keptE (unhide HO) hK (fun k hk e => by omega))
            replace HC := hide hc
            replace HK := hide ((unhide HK).trans (hK.mono (fun k _ e => Or.inl e)))
            clear hc hK
            replace HQ := hide ((unhide HQ).kept (unhide HK) (by omega))
            replace HX := hide ((unhide HX).kept (unhide HK) (by omega))
            replace HW := hide ((unhide HW).trans ((unhide HK).below (B := w.heap.size) (unhide HW).size (fun b e => by omega)))
            clear HK
            cases on with
            | false =>
              have x0 := (unhide HX).cell (i := 0) rfl
              have x1 := (unhide HX).cell (i := 1) rfl
              have x2 := (unhide HX).cell (i := 2) rfl
              have q0 := (unhide HQ).cell (i := 0) rfl
              have q1 := (unhide HQ).cell (i := 1) rfl
              have q2 := (unhide HQ).cell (i := 2) rfl
              have qf := (unhide HQ).frozen
              have HKq : Hid (Kept (fun b => b = gq) (w2) ((((w2).setCell ⟨gq, 0, none⟩ (.int .i64 (ya + yb))).setCell ⟨gq, 1, none⟩ (.int .i64 (-1000001 + px))).setCell ⟨gq, 2, none⟩ (.int .i64 (1 + yc)))) :=
                Kept.setCell (T := fun b => b = gq) (Kept.setCell (T := fun b => b = gq) (Kept.setCell (T := fun b => b = gq) (Kept.refl _ _) (p := ⟨gq, 0, none⟩) rfl _) (p := ⟨gq, 1, none⟩) rfl _) (p := ⟨gq, 2, none⟩) rfl _
              replace HW := hide ((unhide HW).trans ((unhide HKq).below (B := w.heap.size) (unhide HW).size (fun b e => by omega)))
              go_wp2
              refine bodyPost_ret (v := .tuple #[v3 (ya + yb, -1000001 + px, 1 + yc), .slice sa xs.length sc]) (by simp [results, Try.results17, go_sem, v3, q0, q1, q2]) rfl ⟨ya + yb, -1000001 + px, 1 + yc, xs, _, _, _, rfl, (ownsRow_ownSl (ownsRow_keptE (unhide HO) (unhide HKq) (fun k hk e => by omega))).1.upto.inn, unhide HW⟩
            | true =>
              go_wp2_with fail
              refine (l1Below_any cb nb _ 2 _ (unhide HC) hn (by omega) (by omega)).mono ?_
              rintro e w3 ⟨y, rfl, hy3, hy4, hc, hK⟩
              replace HQ := hide ((unhide HQ).kept hK (by omega))
              replace HX := hide ((unhide HX).kept hK (by omega))
              replace HW := hide ((unhide HW).trans (hK.below (B := w.heap.size) (unhide HW).size (fun b e => by omega)))
              obtain ⟨N, eN⟩ : ∃ N : Nat, (N : Int) = 500 + y := ⟨(500 + y).toNat, by omega⟩
              have hmk := run_make_row' (P := Try.prog) 35 3 (.int .i64 0) 8 Try.underlying35 Try.info3 rfl .i64 .i64 N (by omega) (by omega)
              rw [eN] at hmk
              have hN : N ≤ 501 := by omega
              have hql := (unhide HQ).lt
              have hxl := (unhide HX).lt
              have qf3 := (unhide HQ).frozen
              have y0 := (unhide HX).cell (i := 0) rfl
              have y1 := (unhide HX).cell (i := 1) rfl
              have y2 := (unhide HX).cell (i := 2) rfl
              have z0 := (unhide HQ).cell (i := 0) rfl
              have z1 := (unhide HQ).cell (i := 1) rfl
              have z2 := (unhide HQ).cell (i := 2) rfl
              clear hc hK HC HO
              have HKq : Hid (Kept (fun b => b = gq) w3 (((w3.setCell ⟨gq, 0, none⟩ (.int .i64 (ya + yb))).setCell ⟨gq, 1, none⟩ (.int .i64 (-1000001 + px))).setCell ⟨gq, 2, none⟩ (.int .i64 (1 + yc)))) :=
                Kept.setCell (T := fun b => b = gq) (Kept.setCell (T := fun b => b = gq) (Kept.setCell (T := fun b => b = gq) (Kept.refl _ _) (p := ⟨gq, 0, none⟩) rfl _) (p := ⟨gq, 1, none⟩) rfl _) (p := ⟨gq, 2, none⟩) rfl _
              have HQ3 : Hid (OwnV (((w3.setCell ⟨gq, 0, none⟩ (.int .i64 (ya + yb))).setCell ⟨gq, 1, none⟩ (.int .i64 (-1000001 + px))).setCell ⟨gq, 2, none⟩ (.int .i64 (1 + yc))) gq [.int .i64 (ya + yb), .int .i64 (-1000001 + px), .int .i64 (1 + yc)]) := (((unhide HQ).set 0 (.int .i64 (ya + yb)) (by simp)).set 1 (.int .i64 (-1000001 + px)) (by simp)).set 2 (.int .i64 (1 + yc)) (by simp)
              have A1 := Below.alloc1 (((w3.setCell ⟨gq, 0, none⟩ (.int .i64 (ya + yb))).setCell ⟨gq, 1, none⟩ (.int .i64 (-1000001 + px))).setCell ⟨gq, 2, none⟩ (.int .i64 (1 + yc))) (.cells (madeCells #[.int .i64 0] N) 3)
              have r0 := ((unhide HQ3).step A1).cell (i := 0) rfl
              have r1 := ((unhide HQ3).step A1).cell (i := 1) rfl
              have r2 := ((unhide HQ3).step A1).cell (i := 2) rfl
              have HA := hide (ownV_alloc (((w3.setCell ⟨gq, 0, none⟩ (.int .i64 (ya + yb))).setCell ⟨gq, 1, none⟩ (.int .i64 (-1000001 + px))).setCell ⟨gq, 2, none⟩ (.int .i64 (1 + yc))) (madeCells #[.int .i64 0] N) 3)
              rw [ints_madeA] at HA
              simp only [World.size_setCell] at HA
              replace HW := hide (Below.step ((unhide HW).trans ((unhide HKq).below (B := w.heap.size) (unhide HW).size (fun b e => by omega))) A1)
              clear A1
              go_wp2
              refine bodyPost_ret (v := .tuple #[v3 (ya + yb, -1000001 + px, 1 + yc), .slice (some ⟨w3.heap.size, 0, none⟩) N N]) (by simp [results, Try.results17, go_sem, v3, r0, r1, r2]) rfl ⟨ya + yb, -1000001 + px, 1 + yc, List.replicate N 0, _, _, _, rfl, by have := (unhide HA).intsIn (cap := N) (by simp) (by unfold maxLen; omega); simpa using this, unhide HW⟩
      · have e2 : (t == 2) = false := by rw [beq_eq_false_iff_ne]; exact h2
        have A1 := Below.alloc1 (u4) (.cells #[] 3)
        have ez : (u4).heap.size = u4.heap.size := by first | rfl | simp only [World.size_setCell]
        have HO : Hid (((u4).alloc (.cells #[] 3)).ownsRow (u4).heap.size 3 1 (.slice (some ⟨(u4).heap.size, 0, none⟩) 0 0) 0 (ints [])) :=
          ⟨rfl, Or.inr ⟨(u4).heap.size, 0, #[], rfl, Nat.le_refl _, Go.Deep.blk_alloc_new _ _, Nat.le_refl _, Nat.zero_le _, rfl, rfl⟩⟩
        have hcz := (unhide HC).lt
        have hxz := (unhide HX).lt
        have hqz := (unhide HQ).lt
        have hwz := (unhide HW).size
        rw [ez] at HO hcz hxz hqz hwz
        replace HC := hide ((unhide HC).below A1)
        replace HQ := hide ((unhide HQ).step A1)
        replace HX := hide ((unhide HX).step A1)
        replace HW := hide (Below.step (unhide HW) A1)
        clear A1
        have EZ := hide ez
        clear ez
        go_wp2_with (go_at_call 43; refine (l1Size40_any vao nb vcap _ hn).mono ?_; rintro e w' ⟨sz, rfl, hs0, hs1, rfl⟩)
        refine (l1Below_any cb nb _ (2 * sz) _ (unhide HC) hn (by omega) (by omega)).mono ?_
        rintro e wl ⟨m, rfl, hm0, hm1, hc, hK⟩
        obtain ⟨M, rfl⟩ : ∃ M : Nat, m = M := ⟨m.toNat, by omega⟩
        replace HO := hide (ownsRow_keptE (unhide HO) hK (fun k hk e => by omega))
        have hM : M < 80 := by omega
        have hzw := hK.size
        rw [World.size_alloc] at hzw
        replace HW := hide ((unhide HW).trans (hK.below (B := w.heap.size) (unhide HW).size (fun b e => by omega)))
        replace HQ := hide ((unhide HQ).kept hK (by omega))
        replace HC := hide hc
        replace HX := hide ((unhide HX).kept hK (by omega))
        have hzz11 := hK.size
        clear hc hK
        have HK := hide (Kept.refl (fun b => b = cb ∨ u4.heap.size ≤ b) wl)
        clear hm0 hm1 hs0 hs1
        go_wp2
        go_loopg [7, 8] M (fun g ov iv wr => ∃ xs : List Int, iv = .int .i64 (g : Int) ∧ xs.length + g ≤ 80 ∧ Hid (wr.ownsRow u4.heap.size 3 1 ov xs.length (ints xs)) ∧ Hid (Cur wr cb (.slice vao nb vcap) nb) ∧ Hid (Kept (fun b => b = cb ∨ u4.heap.size ≤ b) wl wr))
        case atStart => exact ⟨[], rfl, by simp; omega, HO, HC, HK⟩
        case round =>
          clear HO HC HK hM
          obtain ⟨xs, rfl, hl, HO, HC, HK⟩ := hrel
          obtain ⟨_, sa, sc, rfl⟩ := ownsRow_ownSl (unhide HO)
          by_cases hg : 0 < gk
          · have hgi : (0 : Int) < gk := by omega
            go_wp2_with fail
            refine (l1Below_any cb nb _ 18 _ (unhide HC) hn (by omega) (by omega)).mono ?_
            rintro e w2 ⟨x, rfl, hx0, hx1, hc, hK⟩
            replace HO := hide (ownsRow_keptE (unhide HO) hK (fun k hk e => by omega))
            replace HC := hide hc
            replace HK := hide ((unhide HK).trans (hK.mono (fun k _ e => Or.inl e)))
            have hz := (unhide HK).size
            have hz2 : u4.heap.size ≤ w2.heap.size := by omega
            clear hc hK
            go_wp2_with (at_builtin; go_must (refine wpList_append_own_at _ rfl _ _ 35 rfl u4.heap.size 3 j0 (.int .i64 0) 1 8 Try.underlying35 hj hy0 hy1 hy2 rfl (by decide) (.slice sa xs.length sc) xs.length (ints xs) rfl ((unhide HO).alloc _) ⟨w2.heap.size, 0, none⟩ 1 1 [.int .i64 (x - 1)] rfl rfl (cell_one_new _ _ _) (by simp [Value.oneCell']) (by unfold maxLen; omega) (by omega) (by simp; omega) ?_; intro v' w3 hown hgrow _ hat; have HO3 : Hid (w3.ownsRow u4.heap.size 3 1 v' (xs ++ [x - 1]).length (ints (xs ++ [x - 1]))) := hide (by rw [ints_snocE]; simpa using hown); have HK3 : Hid (Kept (fun b => u4.heap.size ≤ b) w2 w3) := (kept_of_below (Below.alloc1 w2 _)).trans ⟨hgrow.os, hgrow.tape, hgrow.output, hgrow.size, fun k hk hn => hgrow.block k hk (fun e => hn ((unhide HO).lt k e.symm).1)⟩; clear hown hgrow hat))
            go_roundg (gk - 1)
            case measure => omega
            case rel => exact ⟨xs ++ [x - 1], by congr 1; omega, by simp; omega, HO3, (unhide HC).kept (unhide HK3) (fun b hb => by omega), (unhide HK).trans ((unhide HK3).mono (fun k _ e => Or.inr e))⟩
          · have hgi : decide ((0 : Int) < (gk : Int)) = false := by simp; omega
            go_wp2_with fail
            refine (l1Once_any cb nb _ 60 _ (unhide HC) hn (by omega) (by omega)).mono ?_
            rintro e w2 ⟨on, rfl, hc, hK⟩
            replace HO := hide (ownsRow_keptE (unhide HO) hK (fun k hk e => by omega))
            replace HC := hide hc
            replace HK := hide ((unhide HK).trans (hK.mono (fun k _ e => Or.inl e)))
            clear hc hK
            replace HQ := hide ((unhide HQ).kept (unhide HK) (by omega))
            replace HX := hide ((unhide HX).kept (unhide HK) (by omega))
            replace HW := hide ((unhide HW).trans ((unhide HK).below (B := w.heap.size) (unhide HW).size (fun b e => by omega)))
            clear HK
            cases on with
            | false =>
              have x0 := (unhide HX).cell (i := 0) rfl
              have x1 := (unhide HX).cell (i := 1) rfl
              have x2 := (unhide HX).cell (i := 2) rfl
              have q0 := (unhide HQ).cell (i := 0) rfl
              have q1 := (unhide HQ).cell (i := 1) rfl
              have q2 := (unhide HQ).cell (i := 2) rfl
              have qf := (unhide HQ).frozen
              have HKq : Hid (Kept (fun b => b = gq) (w2) ((((w2).setCell ⟨gq, 0, none⟩ (.int .i64 (ya + yb))).setCell ⟨gq, 1, none⟩ (.int .i64 (ya))).setCell ⟨gq, 2, none⟩ (.int .i64 (1 + yc)))) :=
                Kept.setCell (T := fun b => b = gq) (Kept.setCell (T := fun b => b = gq) (Kept.setCell (T := fun b => b = gq) (Kept.refl _ _) (p := ⟨gq, 0, none⟩) rfl _) (p := ⟨gq, 1, none⟩) rfl _) (p := ⟨gq, 2, none⟩) rfl _
              replace HW := hide ((unhide HW).trans ((unhide HKq).below (B := w.heap.size) (unhide HW).size (fun b e => by omega)))
              go_wp2
              refine bodyPost_ret (v := .tuple #[v3 (ya + yb, ya, 1 + yc), .slice sa xs.length sc]) (by simp [results, Try.results17, go_sem, v3, q0, q1, q2]) rfl ⟨ya + yb, ya, 1 + yc, xs, _, _, _, rfl, (ownsRow_ownSl (ownsRow_keptE (unhide HO) (unhide HKq) (fun k hk e => by omega))).1.upto.inn, unhide HW⟩
            | true =>
              go_wp2_with fail
              refine (l1Below_any cb nb _ 2 _ (unhide HC) hn (by omega) (by omega)).mono ?_
              rintro e w3 ⟨y, rfl, hy3, hy4, hc, hK⟩
              replace HQ := hide ((unhide HQ).kept hK (by omega))
              replace HX := hide ((unhide HX).kept hK (by omega))
              replace HW := hide ((unhide HW).trans (hK.below (B := w.heap.size) (unhide HW).size (fun b e => by omega)))
              obtain ⟨N, eN⟩ : ∃ N : Nat, (N : Int) = 500 + y := ⟨(500 + y).toNat, by omega⟩
              have hmk := run_make_row' (P := Try.prog) 35 3 (.int .i64 0) 8 Try.underlying35 Try.info3 rfl .i64 .i64 N (by omega) (by omega)
              rw [eN] at hmk
              have hN : N ≤ 501 := by omega
              have hql := (unhide HQ).lt
              have hxl := (unhide HX).lt
              have qf3 := (unhide HQ).frozen
              have y0 := (unhide HX).cell (i := 0) rfl
              have y1 := (unhide HX).cell (i := 1) rfl
              have y2 := (unhide HX).cell (i := 2) rfl
              have z0 := (unhide HQ).cell (i := 0) rfl
              have z1 := (unhide HQ).cell (i := 1) rfl
              have z2 := (unhide HQ).cell (i := 2) rfl
              clear hc hK HC HO
              have HKq : Hid (Kept (fun b => b = gq) w3 (((w3.setCell ⟨gq, 0, none⟩ (.int .i64 (ya + yb))).setCell ⟨gq, 1, none⟩ (.int .i64 (ya))).setCell ⟨gq, 2, none⟩ (.int .i64 (1 + yc)))) :=
                Kept.setCell (T := fun b => b = gq) (Kept.setCell (T := fun b => b = gq) (Kept.setCell (T := fun b => b = gq) (Kept.refl _ _) (p := ⟨gq, 0, none⟩) rfl _) (p := ⟨gq, 1, none⟩) rfl _) (p := ⟨gq, 2, none⟩) rfl _
              have HQ3 : Hid (OwnV (((w3.setCell ⟨gq, 0, none⟩ (.int .i64 (ya + yb))).setCell ⟨gq, 1, none⟩ (.int .i64 (ya))).setCell ⟨gq, 2, none⟩ (.int .i64 (1 + yc))) gq [.int .i64 (ya + yb), .int .i64 (ya), .int .i64 (1 + yc)]) := (((unhide HQ).set 0 (.int .i64 (ya + yb)) (by simp)).set 1 (.int .i64 (ya)) (by simp)).set 2 (.int .i64 (1 + yc)) (by simp)
              have A1 := Below.alloc1 (((w3.setCell ⟨gq, 0, none⟩ (.int .i64 (ya + yb))).setCell ⟨gq, 1, none⟩ (.int .i64 (ya))).setCell ⟨gq, 2, none⟩ (.int .i64 (1 + yc))) (.cells (madeCells #[.int .i64 0] N) 3)
              have r0 := ((unhide HQ3).step A1).cell (i := 0) rfl
              have r1 := ((unhide HQ3).step A1).cell (i := 1) rfl
              have r2 := ((unhide HQ3).step A1).cell (i := 2) rfl
              have HA := hide (ownV_alloc (((w3.setCell ⟨gq, 0, none⟩ (.int .i64 (ya + yb))).setCell ⟨gq, 1, none⟩ (.int .i64 (ya))).setCell ⟨gq, 2, none⟩ (.int .i64 (1 + yc))) (madeCells #[.int .i64 0] N) 3)
              rw [ints_madeA] at HA
              simp only [World.size_setCell] at HA
              replace HW := hide (Below.step ((unhide HW).trans ((unhide HKq).below (B := w.heap.size) (unhide HW).size (fun b e => by omega))) A1)
              clear A1
              go_wp2
              refine bodyPost_ret (v := .tuple #[v3 (ya + yb, ya, 1 + yc), .slice (some ⟨w3.heap.size, 0, none⟩) N N]) (by simp [results, Try.results17, go_sem, v3, r0, r1, r2]) rfl ⟨ya + yb, ya, 1 + yc, List.replicate N 0, _, _, _, rfl, by have := (unhide HA).intsIn (cap := N) (by simp) (by unfold maxLen; omega); simpa using this, unhide HW⟩

end Go.Proofs.Ytblkbonedgofiaa
