/- The specification's DoYard. Laid together by wip/lay18.py. -/
import Derived.Test.YtdiifkeebgdfkaaYaE
import Derived.Test.YtdiifkeebgdfkaaYaU2
import Derived.Test.YtdiifkeebgdfkaaYaC2
import Derived.Test.YtdiifkeebgdfkaaRYardOp
import Derived.Test.YtdiifkeebgdfkaaYaX1
namespace Go.Proofs.Ytdiifkeebgdfkaa
open Go.RowKit

theorem sinB_low (s : Int) (n : Nat) : inB s 0 ((n : Int) - 1) = decide (0 ≤ s ∧ s < (n : Int)) := by
  unfold inB
  rw [← Bool.decide_and]
  exact decide_eq_decide.2 (by omega)
theorem sinB_box (b : Int) : inB b 1 1000000 = decide (1 ≤ b ∧ b ≤ 1000000) := by
  unfold inB
  rw [← Bool.decide_and]
theorem sopB_one (n : Nat) (b s : Int) : opB n 1 b s = (inB s 0 ((n : Int) - 1) && inB b 1 1000000) := by
  rw [sinB_low, sinB_box]; simp [opB]
theorem sopB_three (n : Nat) (b s : Int) : opB n 3 b s = ((inB s 0 ((n : Int) - 1) && inB b 0 ((n : Int) - 1)) && (b != s)) := by
  rw [sinB_low, sinB_low]; simp [opB]
theorem sopB_other (n : Nat) (k b s : Int) (h1 : k ≠ 1) (h3 : k ≠ 3) : opB n k b s = (k == 2) := by
  have e1 : (k == 1) = false := by simpa using h1
  have e3 : (k == 3) = false := by simpa using h3
  rw [opB, e1, e3]
  simp
theorem own_newS (W : World) (g : Nat) (cs : Array Value) (T : TypeId) (h : W.heap.size = g) : OwnV (W.alloc (.cells cs T)) g cs.toList := h ▸ ownV_alloc W cs T

set_option maxHeartbeats 3200000 in
theorem l18Op_any (H : Int) (ao : Option Addr) (n cap : Nat) (k b s : Int) (w : World) (hn : n ≤ 1048576) :
    Calls Try.prog 72 #[yardV H (.slice ao n cap), vYardOp k b s] w fun e w' => e = .returned (.bool (opB n k b s)) ∧ Below w.heap.size w w' := by
  have HP := hide fun (x a b : Int) W => l1In_b x a b W
  obtain ⟨A, eA⟩ : ∃ A, A = opB n k b s := ⟨_, rfl⟩
  rw [← eA]
  have EA := hide eA
  clear eA
  unfold vYardOp yardV
  go_enter Try.func72, Try.ntmps72
  go_upto_region 1 with (fail)
  obtain ⟨g0, eg0⟩ : ∃ z, z = w.heap.size := ⟨_, rfl⟩
  obtain ⟨W, eW⟩ : ∃ z, z = (w.alloc (.cells #[.int .i64 H, .slice ao n cap] 26)).alloc (.cells #[.int .i64 k, .int .i64 b, .int .i64 s] 34) := ⟨_, rfl⟩
  have HW : Hid (Below w.heap.size w W) := by rw [eW]; exact Below.step (Below.alloc1 _ _) (Below.alloc1 _ _)
  have HB : Hid (OwnV W g0 [.int .i64 H, .slice ao n cap]) := by rw [eW, eg0]; exact (ownV_alloc _ _ _).step (Below.alloc1 _ _)
  have HO : Hid (OwnV W (g0 + 1) [.int .i64 k, .int .i64 b, .int .i64 s]) := by rw [eW, eg0]; exact own_newS _ _ _ _ (by simp)
  rw [← eW, ← eg0]
  clear eW eg0
  by_cases h1 : k = 1
  · subst h1
    have HE := hide ((unhide EA).trans (sopB_one n b s))
    have HPS := hide fun W => unhide HP s 0 ((n : Int) - 1) W
    cases hp : inB s 0 ((n : Int) - 1) with
    | false =>
      rw [hp] at HE HPS
      clear hp
      have b0 := (unhide HB).cell (i := 0) rfl
      have b1 := (unhide HB).cell (i := 1) rfl
      have o0 := (unhide HO).cell (i := 0) rfl
      have o1 := (unhide HO).cell (i := 1) rfl
      have o2 := (unhide HO).cell (i := 2) rfl
      go_wp2_with fail
      refine (unhide HPS _).mono ?_
      rintro e w1 ⟨rfl, hb⟩
      replace HW := hide (Below.step (unhide HW) hb)
      replace HB := hide ((unhide HB).step hb)
      replace HO := hide ((unhide HO).step hb)
      clear hb b0 b1 o0 o1 o2
      go_wp2
      go_ret
      exact ⟨by rw [unhide HE]; rfl, unhide HW⟩
    | true =>
      rw [hp] at HE HPS
      clear hp
      have HYB := hide fun W => unhide HP b 1 1000000 W
      generalize inB b 1 1000000 = r at HYB HE
      have b0 := (unhide HB).cell (i := 0) rfl
      have b1 := (unhide HB).cell (i := 1) rfl
      have o0 := (unhide HO).cell (i := 0) rfl
      have o1 := (unhide HO).cell (i := 1) rfl
      have o2 := (unhide HO).cell (i := 2) rfl
      go_wp2_with fail
      refine (unhide HPS _).mono ?_
      rintro e w1 ⟨rfl, hb⟩
      replace HW := hide (Below.step (unhide HW) hb)
      replace HB := hide ((unhide HB).step hb)
      replace HO := hide ((unhide HO).step hb)
      clear hb b0 b1 o0 o1 o2
      have b0 := (unhide HB).cell (i := 0) rfl
      have b1 := (unhide HB).cell (i := 1) rfl
      have o0 := (unhide HO).cell (i := 0) rfl
      have o1 := (unhide HO).cell (i := 1) rfl
      have o2 := (unhide HO).cell (i := 2) rfl
      go_wp2_with fail
      refine (unhide HYB _).mono ?_
      rintro e w2 ⟨rfl, hb⟩
      replace HW := hide (Below.step (unhide HW) hb)
      replace HB := hide ((unhide HB).step hb)
      replace HO := hide ((unhide HO).step hb)
      clear hb b0 b1 o0 o1 o2
      go_wp2
      go_ret
      exact ⟨by rw [unhide HE]; rfl, unhide HW⟩
  · by_cases h3 : k = 3
    · subst h3
      have HE := hide ((unhide EA).trans (sopB_three n b s))
      have HPS := hide fun W => unhide HP s 0 ((n : Int) - 1) W
      have HYB := hide fun W => unhide HP b 0 ((n : Int) - 1) W
      cases hp : inB s 0 ((n : Int) - 1) with
      | false =>
        rw [hp] at HE HPS
        clear hp
        have b0 := (unhide HB).cell (i := 0) rfl
        have b1 := (unhide HB).cell (i := 1) rfl
        have o0 := (unhide HO).cell (i := 0) rfl
        have o1 := (unhide HO).cell (i := 1) rfl
        have o2 := (unhide HO).cell (i := 2) rfl
        go_wp2_with fail
        refine (unhide HPS _).mono ?_
        rintro e w1 ⟨rfl, hb⟩
        replace HW := hide (Below.step (unhide HW) hb)
        replace HB := hide ((unhide HB).step hb)
        replace HO := hide ((unhide HO).step hb)
        clear hb b0 b1 o0 o1 o2
        go_wp2
        go_ret
        exact ⟨by rw [unhide HE]; rfl, unhide HW⟩
      | true =>
        rw [hp] at HE HPS
        clear hp
        cases hq : inB b 0 ((n : Int) - 1) with
        | false =>
          rw [hq] at HE HYB
          clear hq
          have b0 := (unhide HB).cell (i := 0) rfl
          have b1 := (unhide HB).cell (i := 1) rfl
          have o0 := (unhide HO).cell (i := 0) rfl
          have o1 := (unhide HO).cell (i := 1) rfl
          have o2 := (unhide HO).cell (i := 2) rfl
          go_wp2_with fail
          refine (unhide HPS _).mono ?_
          rintro e w1 ⟨rfl, hb⟩
          replace HW := hide (Below.step (unhide HW) hb)
          replace HB := hide ((unhide HB).step hb)
          replace HO := hide ((unhide HO).step hb)
          clear hb b0 b1 o0 o1 o2
          have b0 := (unhide HB).cell (i := 0) rfl
          have b1 := (unhide HB).cell (i := 1) rfl
          have o0 := (unhide HO).cell (i := 0) rfl
          have o1 := (unhide HO).cell (i := 1) rfl
          have o2 := (unhide HO).cell (i := 2) rfl
          go_wp2_with fail
          refine (unhide HYB _).mono ?_
          rintro e w2 ⟨rfl, hb⟩
          replace HW := hide (Below.step (unhide HW) hb)
          replace HB := hide ((unhide HB).step hb)
          replace HO := hide ((unhide HO).step hb)
          clear hb b0 b1 o0 o1 o2
          go_wp2
          go_ret
          exact ⟨by rw [unhide HE]; rfl, unhide HW⟩
        | true =>
          rw [hq] at HE HYB
          clear hq
          have b0 := (unhide HB).cell (i := 0) rfl
          have b1 := (unhide HB).cell (i := 1) rfl
          have o0 := (unhide HO).cell (i := 0) rfl
          have o1 := (unhide HO).cell (i := 1) rfl
          have o2 := (unhide HO).cell (i := 2) rfl
          go_wp2_with fail
          refine (unhide HPS _).mono ?_
          rintro e w1 ⟨rfl, hb⟩
          replace HW := hide (Below.step (unhide HW) hb)
          replace HB := hide ((unhide HB).step hb)
          replace HO := hide ((unhide HO).step hb)
          clear hb b0 b1 o0 o1 o2
          have b0 := (unhide HB).cell (i := 0) rfl
          have b1 := (unhide HB).cell (i := 1) rfl
          have o0 := (unhide HO).cell (i := 0) rfl
          have o1 := (unhide HO).cell (i := 1) rfl
          have o2 := (unhide HO).cell (i := 2) rfl
          go_wp2_with fail
          refine (unhide HYB _).mono ?_
          rintro e w2 ⟨rfl, hb⟩
          replace HW := hide (Below.step (unhide HW) hb)
          replace HB := hide ((unhide HB).step hb)
          replace HO := hide ((unhide HO).step hb)
          clear hb b0 b1 o0 o1 o2
          have o0 := (unhide HO).cell (i := 0) rfl
          have o1 := (unhide HO).cell (i := 1) rfl
          have o2 := (unhide HO).cell (i := 2) rfl
          go_wp2
          go_ret
          exact ⟨by rw [unhide HE]; rfl, unhide HW⟩
    · have HE := hide ((unhide EA).trans (sopB_other n k b s h1 h3))
      have e1 : (k == 1) = false := by simpa using h1
      have e3 : (k == 3) = false := by simpa using h3
      have b1 := (unhide HB).cell (i := 1) rfl
      generalize ek : (k == 2) = z at HE
      have o0 := (unhide HO).cell (i := 0) rfl
      have o1 := (unhide HO).cell (i := 1) rfl
      have o2 := (unhide HO).cell (i := 2) rfl
      go_wp2
      go_ret
      exact ⟨by rw [unhide HE]; first | rfl | simp [ek], unhide HW⟩

theorem cpA_rows {w w' : World} {H : Int} {R : List (List Int)} {e : Ending} (h : CpA w H R e w') : ∃ ao cap, e = .returned (yardV H (.slice ao R.length cap)) ∧ RowsIn w' (.slice ao R.length cap) R ∧ Below w.heap.size w w' := by
  obtain ⟨ao, n, cap, rfl, hb, h⟩ := h
  rcases h with ⟨rfl, rfl, rfl, rfl⟩ | ⟨g, A, C, rfl, rfl, h1, h2, hs⟩
  · exact ⟨none, 0, rfl, ⟨none, 0, rfl, Nat.le_refl _, Nat.zero_le _, fun r hr => by simp at hr⟩, hb⟩
  · exact ⟨_, cap, rfl, hs.rows h1 h2, hb⟩
theorem cpA_sy {w w' : World} {H : Int} {R : List (List Int)} {e : Ending} (h : CpA w H R e w') (hn : 1 ≤ R.length) : ∃ g A C cap, e = .returned (yardV H (.slice (some ⟨g, 0, none⟩) R.length cap)) ∧ R.length ≤ cap ∧ cap ≤ maxLen ∧ SY (fun k => w.heap.size ≤ k) w' g A C R ∧ Below w.heap.size w w' := by
  obtain ⟨ao, n, cap, rfl, hb, h⟩ := h
  rcases h with ⟨rfl, rfl, rfl, rfl⟩ | ⟨g, A, C, rfl, rfl, h1, h2, hs⟩
  · simp at hn
  · exact ⟨g, A, C, cap, rfl, h1, h2, hs, hb⟩
theorem SY.under {U : Nat → Prop} {w : World} {g : Nat} {A C : Nat → Nat} {R : List (List Int)} (h : SY U w g A C R) : SY (fun k => U k ∧ k ≠ w.heap.size) w g A C R :=
  ⟨h.top, h.row, ⟨h.ug, Nat.ne_of_lt h.top.lt⟩, fun r hr => ⟨h.ua r hr, Nat.ne_of_lt (h.caps hr).2.2.2⟩, h.off, h.apart⟩

theorem sdo_in1 {H : Int} {R : List (List Int)} {b s : Int} (h : YOk H R) (ho : opB R.length 1 b s = true) (hf : (findB R b).isSome = true) : doY H R 1 b s = (R, 0, 2) := by
  rw [doY, if_neg (fun e => e ⟨h, ho⟩), if_pos rfl, if_pos hf]
theorem sdo_in2 {H : Int} {R : List (List Int)} {b s : Int} (h : YOk H R) (ho : opB R.length 1 b s = true) (hf : findB R b = none) (hl : ((R.getD s.toNat []).length : Int) = H) : doY H R 1 b s = (R, 0, 4) := by
  rw [doY, if_neg (fun e => e ⟨h, ho⟩), if_pos rfl, if_neg (by rw [hf]; simp), if_pos hl]
theorem sdo_in3 {H : Int} {R : List (List Int)} {b s : Int} (h : YOk H R) (ho : opB R.length 1 b s = true) (hf : findB R b = none) (hl : ((R.getD s.toNat []).length : Int) ≠ H) : doY H R 1 b s = (R.set s.toNat (R.getD s.toNat [] ++ [b]), 0, 0) := by
  rw [doY, if_neg (fun e => e ⟨h, ho⟩), if_pos rfl, if_neg (by rw [hf]; simp), if_neg hl]
theorem sdo_sh1 {H : Int} {R : List (List Int)} {b s : Int} (h : YOk H R) (ho : opB R.length 3 b s = true) (hf : (R.getD b.toNat []).length = 0) : doY H R 3 b s = (R, 0, 3) := by
  rw [doY, if_neg (fun e => e ⟨h, ho⟩), if_neg (by omega), if_pos rfl, if_pos hf]
theorem sdo_sh2 {H : Int} {R : List (List Int)} {b s : Int} (h : YOk H R) (ho : opB R.length 3 b s = true) (hf : (R.getD b.toNat []).length ≠ 0) (hl : ((R.getD s.toNat []).length : Int) = H) : doY H R 3 b s = (R, 0, 4) := by
  rw [doY, if_neg (fun e => e ⟨h, ho⟩), if_neg (by omega), if_pos rfl, if_neg hf, if_pos hl]
theorem sdo_sh3 {H : Int} {R : List (List Int)} {b s : Int} (h : YOk H R) (ho : opB R.length 3 b s = true) (hf : (R.getD b.toNat []).length ≠ 0) (hl : ((R.getD s.toNat []).length : Int) ≠ H) : doY H R 3 b s = (shiftY R b.toNat s.toNat, 0, 0) := by
  rw [doY, if_neg (fun e => e ⟨h, ho⟩), if_neg (by omega), if_pos rfl, if_neg hf, if_neg hl]
theorem sdo_out1 {H : Int} {R : List (List Int)} {b s : Int} (h : YOk H R) (ho : opB R.length 2 b s = true) (hf : findB R b = none) : doY H R 2 b s = (R, 0, 3) := by
  rw [doY, if_neg (fun e => e ⟨h, ho⟩), if_neg (by omega), if_neg (by omega), hf]
theorem sdo_out2 {H : Int} {R : List (List Int)} {b s : Int} {p : Nat × Nat} (h : YOk H R) (ho : opB R.length 2 b s = true) (hf : findB R b = some p) (hx : offY H p.1 ((R.getD p.1 []).length - (p.2 + 1)) R = none) : doY H R 2 b s = (R, 0, 4) := by
  rw [doY, if_neg (fun e => e ⟨h, ho⟩), if_neg (by omega), if_neg (by omega), hf]
  dsimp only
  rw [hx]
theorem sdo_out3 {H : Int} {R : List (List Int)} {b s : Int} {p : Nat × Nat} {M : List (List Int)} (h : YOk H R) (ho : opB R.length 2 b s = true) (hf : findB R b = some p) (hx : offY H p.1 ((R.getD p.1 []).length - (p.2 + 1)) R = some M) : doY H R 2 b s = (M.set p.1 ((M.getD p.1 []).take p.2), (((R.getD p.1 []).length - (p.2 + 1) : Nat) : Int), 0) := by
  rw [doY, if_neg (fun e => e ⟨h, ho⟩), if_neg (by omega), if_neg (by omega), hf]
  dsimp only
  rw [hx]

theorem below_keptS {T : Nat → Prop} {a w w' : World} {B : Nat} (h : Below B a w) (hk : Kept T w w') (hB : B ≤ w.heap.size) (hT : ∀ k, T k → B ≤ k) : Below B a w' := h.trans (hk.below hB hT)
/-- What the specification's DoYard answers. -/
def SDoA (w : World) (H : Int) (D : List (List Int) × Int × Int) (e : Ending) (w' : World) : Prop := ∃ ao n cap, e = .returned (.tuple #[yardV H (.slice ao n cap), .int .i64 D.2.1, .int .i64 D.2.2]) ∧ (∀ V, Kept (fun b => b < w.heap.size) w' V → RowsIn V (.slice ao n cap) D.1) ∧ Below w.heap.size w w'
theorem RowsIn.keptS {T : Nat → Prop} {B : Nat} {w w' : World} {g cap : Nat} {G C : Nat → Nat} {R : List (List Int)} (h : OwnRows B w g G C R) (hk : Kept T w w') (hT : ∀ b, B ≤ b → ¬ T b) (h1 : R.length ≤ cap) (h2 : cap ≤ maxLen) : RowsIn w' (.slice (some ⟨g, 0, none⟩) R.length cap) R :=
  OwnRows.rowsIn ⟨h.base, h.top.kept hk (hT g h.base), fun r hr => (h.rows r hr).kept hk (hT _ (h.above r hr).1), h.caps, h.above, h.apart⟩ h1 h2

theorem find_at {H : Int} {R : List (List Int)} {x : Int} {p : Nat × Nat} (h : YOk H R) (hp : findB R x = some p) : findV H R x = ((p.1 : Int), (p.2 : Int), true) := by simp [findV, h, hp]
theorem find_no {H : Int} {R : List (List Int)} {x : Int} (h : YOk H R) (hp : findB R x = none) : findV H R x = (-1, -1, false) := by simp [findV, h, hp]

end Go.Proofs.Ytdiifkeebgdfkaa

namespace Go.Proofs.Ytdiifkeebgdfkaa
open Go.RowKit

set_option maxRecDepth 100000 in
set_option maxHeartbeats 16000000 in
theorem specDoYard_1 (H : Int) (ao : Option Addr) (cap : Nat) (R : List (List Int)) (b s : Int) (w : World) (h : RowsIn w (.slice ao R.length cap) R) (hy : YOk H R) (ho : opB R.length 1 b s = true) :
    Calls Try.prog 27 #[yardV H (.slice ao R.length cap), vYardOp 1 b s] w fun e w' => SDoA w H (doY H R 1 b s) e w' := by
  obtain ⟨⟨D1, D2, D3⟩, eD⟩ : ∃ D, D = doY H R 1 b s := ⟨_, rfl⟩
  rw [← eD]
  have ED := hide eD
  clear eD
  have HY := hide hy
  have hn1 := hy.n1
  have hn2 := hy.n2
  have hH2 := hy.h2
  have HV := hide h
  obtain ⟨-, -, -, hc1, hc2⟩ := rows_cap h
  have HOB := hide ho
  have HCPY := hide fun W (hb : Below w.heap.size w W) => l18Copy_any H (.slice ao R.length cap) R W (h.below hb) (by omega) (fun s hs => by have := hy.low s hs; have := hy.h2; omega)
  have HYK := hide fun W (hb : Below w.heap.size w W) => specYardOk_any H (.slice ao R.length cap) R W (h.below hb)
  rw [show yardB H R = true from decide_eq_true hy] at HYK
  have HOP := hide fun W => l18Op_any H ao R.length cap 1 b s W (by omega)
  rw [ho] at HOP
  have HFB := hide fun W (hb : Below w.heap.size w W) => specFindBox_any H (.slice ao R.length cap) R b W (h.below hb)
  have HLOW : Hid (∀ s, s < R.length → (R.getD s []).length ≤ 6) := fun s hs => by have := hy.low s hs; have := hy.h2; omega
  clear h ho hy
  unfold vYardOp yardV at HOP ⊢
  unfold yardV at HYK HFB HCPY
  go_enter Try.func27, Try.ntmps27
  go_upto_region 1 with (fail)
  obtain ⟨g0, eg0⟩ : ∃ z, z = w.heap.size := ⟨_, rfl⟩
  obtain ⟨W, eW⟩ : ∃ z, z = ((w.alloc (.cells #[.int .i64 H, .slice ao R.length cap] 26)).alloc (.cells #[.int .i64 1, .int .i64 b, .int .i64 s] 34)).alloc (.cells #[.int .i64 0, .slice none 0 0] 26) := ⟨_, rfl⟩
  have HW : Hid (Below w.heap.size w W) := by rw [eW]; exact Below.step (Below.step (Below.alloc1 _ _) (Below.alloc1 _ _)) (Below.alloc1 _ _)
  have HB : Hid (OwnV W g0 [.int .i64 H, .slice ao R.length cap]) := by rw [eW, eg0]; exact ((ownV_alloc _ _ _).step (Below.alloc1 _ _)).step (Below.alloc1 _ _)
  have HO : Hid (OwnV W (g0 + 1) [.int .i64 1, .int .i64 b, .int .i64 s]) := by rw [eW, eg0]; exact (own_newS _ _ _ _ (by simp)).step (Below.alloc1 _ _)
  have HA : Hid (OwnV W (g0 + 1 + 1) [.int .i64 0, .slice none 0 0]) := by rw [eW, eg0]; exact own_newS _ _ _ _ (by simp)
  rw [← eW, ← eg0]
  have hg0 : w.heap.size ≤ g0 := by omega
  clear eW eg0
  obtain ⟨gU, egU⟩ : ∃ z, z = W.heap.size := ⟨_, rfl⟩
  have hgU : g0 + 1 + 1 < gU := by rw [egU]; exact (unhide HA).lt
  have b0 := (unhide HB).cell (i := 0) rfl
  have b1 := (unhide HB).cell (i := 1) rfl
  go_wp2_with fail
  refine (unhide HCPY _ (unhide HW)).mono ?_
  intro e w1 hcp
  obtain ⟨go, A, C, oc, rfl, ho1, ho2, hS, hb⟩ := cpA_sy hcp hn1
  replace HW := hide (Below.step (unhide HW) hb)
  replace HB := hide ((unhide HB).step hb)
  replace HO := hide ((unhide HO).step hb)
  replace HA := hide ((unhide HA).step hb)
  clear hcp b0 b1
  unfold yardV
  rw [← egU] at hS
  have HS := hide hS.under
  obtain ⟨gb, egb⟩ : ∃ z, z = w1.heap.size := ⟨_, rfl⟩
  rw [← egb] at HS
  have hgb : gU ≤ gb := by rw [egb, egU]; exact hb.size
  clear hS hb egU
  go_upto_region 2 with (fail)
  obtain ⟨W2, eW⟩ : ∃ z, z = w1.alloc (.cells #[.int .i64 H, .slice (some ⟨go, 0, none⟩) R.length oc] 26) := ⟨_, rfl⟩
  have hb : Below w1.heap.size w1 W2 := by rw [eW]; exact Below.alloc1 _ _
  have HC : Hid (OwnV W2 gb [.int .i64 H, .slice (some ⟨go, 0, none⟩) R.length oc]) := by rw [eW, egb]; exact ownV_alloc _ _ _
  rw [← eW, ← egb]
  replace HW := hide (Below.step (unhide HW) hb)
  replace HB := hide ((unhide HB).step hb)
  replace HO := hide ((unhide HO).step hb)
  replace HA := hide ((unhide HA).step hb)
  replace HS := hide ((unhide HS).below hb)
  clear hb eW egb
  obtain ⟨U, eU⟩ : ∃ z : Nat → Prop, z = fun k => gU ≤ k ∧ k ≠ gb := ⟨_, rfl⟩
  rw [← eU] at HS
  have HUK : Hid (∀ k, U k → gU ≤ k ∧ k ≠ gb) := fun k hk => by rw [eU] at hk; exact hk
  have HUM : Hid (∀ k, gb < k → U k) := fun k hk => by rw [eU]; exact ⟨by omega, by omega⟩
  clear eU
  unfold maxLen at ho2
  have b0 := (unhide HB).cell (i := 0) rfl
  have b1 := (unhide HB).cell (i := 1) rfl
  have o0 := (unhide HO).cell (i := 0) rfl
  have o1 := (unhide HO).cell (i := 1) rfl
  have o2 := (unhide HO).cell (i := 2) rfl
  go_wp2_with fail
  refine (unhide HYK _ (unhide HW)).mono ?_
  rintro e w2 ⟨rfl, hb⟩
  replace HW := hide (Below.step (unhide HW) hb)
  replace HB := hide ((unhide HB).step hb)
  replace HO := hide ((unhide HO).step hb)
  replace HA := hide ((unhide HA).step hb)
  replace HC := hide ((unhide HC).step hb)
  replace HS := hide ((unhide HS).below hb)
  clear hb b0 b1 o0 o1 o2
  have b0 := (unhide HB).cell (i := 0) rfl
  have b1 := (unhide HB).cell (i := 1) rfl
  have o0 := (unhide HO).cell (i := 0) rfl
  have o1 := (unhide HO).cell (i := 1) rfl
  have o2 := (unhide HO).cell (i := 2) rfl
  go_wp2_with fail
  refine (unhide HOP _).mono ?_
  rintro e w3 ⟨rfl, hb⟩
  replace HW := hide (Below.step (unhide HW) hb)
  replace HB := hide ((unhide HB).step hb)
  replace HO := hide ((unhide HO).step hb)
  replace HA := hide ((unhide HA).step hb)
  replace HC := hide ((unhide HC).step hb)
  replace HS := hide ((unhide HS).below hb)
  clear hb b0 b1 o0 o1 o2
  clear HYK HOP
  have b0 := (unhide HB).cell (i := 0) rfl
  have b1 := (unhide HB).cell (i := 1) rfl
  have o0 := (unhide HO).cell (i := 0) rfl
  have o1 := (unhide HO).cell (i := 1) rfl
  have o2 := (unhide HO).cell (i := 2) rfl
  go_wp2_with fail
  refine (unhide HFB _ (unhide HW)).mono ?_
  rintro e w4 ⟨rfl, hb⟩
  replace HW := hide (Below.step (unhide HW) hb)
  replace HB := hide ((unhide HB).step hb)
  replace HO := hide ((unhide HO).step hb)
  replace HA := hide ((unhide HA).step hb)
  replace HC := hide ((unhide HC).step hb)
  replace HS := hide ((unhide HS).below hb)
  clear hb b0 b1 o0 o1 o2
  clear HFB
  have HDI := hide fun (hf : (findB R b).isSome = true) => (unhide ED).trans (sdo_in1 (unhide HY) (unhide HOB) hf)
  have HDF := hide fun (hf : findB R b = none) (hl : ((R.getD s.toNat []).length : Int) = H) => (unhide ED).trans (sdo_in2 (unhide HY) (unhide HOB) hf hl)
  have HDD := hide fun (hf : findB R b = none) (hl : ((R.getD s.toNat []).length : Int) ≠ H) => (unhide ED).trans (sdo_in3 (unhide HY) (unhide HOB) hf hl)
  obtain ⟨s0, s1, _, _⟩ := opB_in (unhide HOB)
  obtain ⟨i, ei⟩ : ∃ i : Nat, s = (i : Int) := ⟨s.toNat, by omega⟩
  subst ei
  rw [Int.toNat_natCast] at HDF HDD
  cases hf : findB R b with
  | some p =>
    rw [find_at (unhide HY) hf] at *
    have HD := hide (unhide HDI (by rw [hf]; rfl))
    clear hf HDI HDF HDD
    dsimp only
    have o0 := (unhide HO).cell (i := 0) rfl
    have c0 := (unhide HC).cell (i := 0) rfl
    have c1 := (unhide HC).cell (i := 1) rfl
    have HKS : Hid (Kept (fun b => b = g0 + 1 + 1) w4 ((w4.setCell ⟨g0 + 1 + 1, 0, none⟩ (.int .i64 H)).setCell ⟨g0 + 1 + 1, 1, none⟩ (.slice (some ⟨go, 0, none⟩) R.length oc))) := ((Kept.refl (fun b => b = g0 + 1 + 1) _).setCell (p := ⟨g0 + 1 + 1, 0, none⟩) rfl _).setCell (p := ⟨g0 + 1 + 1, 1, none⟩) rfl _
    have rf0 := (unhide HA).frozen 0
    have rf1 := (unhide HA).frozen 1
    have r0 := (unhide HA).cell (i := 0) rfl
    have r1 := (unhide HA).cell (i := 1) rfl
    have f0 := (((unhide HA).set 0 (.int .i64 H) (by simp)).set 1 (.slice (some ⟨go, 0, none⟩) R.length oc) (by simp)).cell (i := 0) rfl
    have f1 := (((unhide HA).set 0 (.int .i64 H) (by simp)).set 1 (.slice (some ⟨go, 0, none⟩) R.length oc) (by simp)).cell (i := 1) rfl
    have hWB : Below w.heap.size w w4 := unhide HW
    go_wp2
    refine bodyPost_ret (v := .tuple #[.agg #[.int .i64 H, .slice (some ⟨go, 0, none⟩) R.length oc], .int .i64 0, .int .i64 2]) (by simp [results, Try.results27, go_sem, f0, f1]) rfl ?_
    have eD := unhide HD
    simp only [Prod.mk.injEq] at eD
    obtain ⟨e1, e2, e3⟩ := eD
    subst e1 e2 e3
    exact ⟨_, _, _, rfl, fun V hV => (by have hr := (((unhide HS).kept (unhide HKS) (fun k hk e => by have := unhide HUK k hk; omega)).kept hV (fun k hk e => by have := unhide HUK k hk; have e : k < w.heap.size := e; omega)).rows (cap := oc) (by omega) (by unfold maxLen; omega); exact hr), below_keptS hWB (unhide HKS) hWB.size (fun b e => by omega)⟩
  | none =>
    rw [find_no (unhide HY) hf] at *
    have HDF' := hide (unhide HDF hf)
    have HDD' := hide (unhide HDD hf)
    clear hf HDI HDF HDD
    dsimp only
    have hiR : i < R.length := by omega
    have hii : (i : Int) < (R.length : Int) := by omega
    have hrow := ((unhide HS).at hiR).1
    have hm6 := unhide HLOW i hiR
    have hmc := ((unhide HS).caps hiR).2.1
    obtain ⟨m, em⟩ : ∃ m, (R.getD i []).length = m := ⟨_, rfl⟩
    rw [em] at hrow hm6 hmc HDF' HDD'
    have EM := hide em
    clear em
    have o0 := (unhide HO).cell (i := 0) rfl
    go_upto_region 9 with (fail)
    clear o0
    by_cases hmh : (m : Int) = H
    · have emh : ((m : Int) == H) = true := by simpa using hmh
      have HD := hide (unhide HDF' hmh)
      clear hmh
      have gt0 := fun x' : Gr w4 => gr_cell ((unhide HB).cell (i := 0) rfl) x'
      have gt1 := fun x' : Gr w4 => gr_cell ((unhide HC).cell (i := 1) rfl) x'
      have gt2 := fun x' : Gr w4 => gr_cell ((unhide HO).cell (i := 2) rfl) x'
      have gt3 := fun x' : Gr w4 => gr_cell (hrow) x'
      have gsome := gr_some w4
      refine wp_region_grown (by kernel_rfl) (by kernel_rfl) ?_
      repeat (go_big_quiet_step (fail))
      refine wpQuiet_nil ?_
      intro wz hw1
      obtain ⟨z', hz⟩ := hw1
      have hb : Below w4.heap.size w4 wz := hz ▸ z'.ok
      clear hz z' gsome gt0 gt1 gt2 gt3
      replace HW := hide (Below.step (unhide HW) hb)
      replace HB := hide ((unhide HB).step hb)
      replace HO := hide ((unhide HO).step hb)
      replace HA := hide ((unhide HA).step hb)
      replace HC := hide ((unhide HC).step hb)
      replace HS := hide ((unhide HS).below hb)
      clear hb
      clear hrow emh
      have c0 := (unhide HC).cell (i := 0) rfl
      have c1 := (unhide HC).cell (i := 1) rfl
      have HKS : Hid (Kept (fun b => b = g0 + 1 + 1) wz ((wz.setCell ⟨g0 + 1 + 1, 0, none⟩ (.int .i64 H)).setCell ⟨g0 + 1 + 1, 1, none⟩ (.slice (some ⟨go, 0, none⟩) R.length oc))) := ((Kept.refl (fun b => b = g0 + 1 + 1) _).setCell (p := ⟨g0 + 1 + 1, 0, none⟩) rfl _).setCell (p := ⟨g0 + 1 + 1, 1, none⟩) rfl _
      have rf0 := (unhide HA).frozen 0
      have rf1 := (unhide HA).frozen 1
      have r0 := (unhide HA).cell (i := 0) rfl
      have r1 := (unhide HA).cell (i := 1) rfl
      have f0 := (((unhide HA).set 0 (.int .i64 H) (by simp)).set 1 (.slice (some ⟨go, 0, none⟩) R.length oc) (by simp)).cell (i := 0) rfl
      have f1 := (((unhide HA).set 0 (.int .i64 H) (by simp)).set 1 (.slice (some ⟨go, 0, none⟩) R.length oc) (by simp)).cell (i := 1) rfl
      have hWB : Below w.heap.size w wz := unhide HW
      go_wp2
      refine bodyPost_ret (v := .tuple #[.agg #[.int .i64 H, .slice (some ⟨go, 0, none⟩) R.length oc], .int .i64 0, .int .i64 4]) (by simp [results, Try.results27, go_sem, f0, f1]) rfl ?_
      have eD := unhide HD
      simp only [Prod.mk.injEq] at eD
      obtain ⟨e1, e2, e3⟩ := eD
      subst e1 e2 e3
      exact ⟨_, _, _, rfl, fun V hV => (by have hr := (((unhide HS).kept (unhide HKS) (fun k hk e => by have := unhide HUK k hk; omega)).kept hV (fun k hk e => by have := unhide HUK k hk; have e : k < w.heap.size := e; omega)).rows (cap := oc) (by omega) (by unfold maxLen; omega); exact hr), below_keptS hWB (unhide HKS) hWB.size (fun b e => by omega)⟩
    · have emh : ((m : Int) == H) = false := by simpa using hmh
      have HD := hide (unhide HDD' hmh)
      clear hmh
      have gt0 := fun x' : Gr w4 => gr_cell ((unhide HB).cell (i := 0) rfl) x'
      have gt1 := fun x' : Gr w4 => gr_cell ((unhide HC).cell (i := 1) rfl) x'
      have gt2 := fun x' : Gr w4 => gr_cell ((unhide HO).cell (i := 2) rfl) x'
      have gt3 := fun x' : Gr w4 => gr_cell (hrow) x'
      have gsome := gr_some w4
      refine wp_region_grown (by kernel_rfl) (by kernel_rfl) ?_
      repeat (go_big_quiet_step (fail))
      refine wpQuiet_nil ?_
      intro wz hw1
      obtain ⟨z', hz⟩ := hw1
      have hb : Below w4.heap.size w4 wz := hz ▸ z'.ok
      clear hz z' gsome gt0 gt1 gt2 gt3
      replace HW := hide (Below.step (unhide HW) hb)
      replace HB := hide ((unhide HB).step hb)
      replace HO := hide ((unhide HO).step hb)
      replace HA := hide ((unhide HA).step hb)
      replace HC := hide ((unhide HC).step hb)
      replace HS := hide ((unhide HS).below hb)
      clear hb
      clear hrow emh
      have hgoA : A i ≠ go := (unhide HS).off i hiR
      have hAU := unhide HUK _ ((unhide HS).ua i hiR)
      have hgoU := unhide HUK _ (unhide HS).ug
      have HRB := hide ((unhide HS).row i hiR)
      rw [unhide EM] at HRB
      have hcell := ((unhide HS).at hiR).1
      have hfro := ((unhide HS).at hiR).2
      rw [unhide EM] at hcell
      have hgbl := (unhide HC).lt
      have hgol := (unhide HS).top.lt
      have hAl := ((unhide HS).caps hiR).2.2.2
      go_upto_region 11 with (fail)
      go_cut [] (fun wx => ∃ A1 C1, Hid (SY U wx go A1 C1 (R.set i (R.getD i [] ++ [b]))) ∧ Hid (OwnV wx gb [.int .i64 H, .slice (some ⟨go, 0, none⟩) R.length oc]) ∧ Hid (OwnV wx (g0 + 1 + 1) [.int .i64 0, .slice none 0 0]) ∧ Hid (Below w.heap.size w wx))
      case first =>
        refine wp_region_held_drew (S := fun w' => w'.cell? ⟨gb, 1, none⟩ = some (.slice (some ⟨go, 0, none⟩) R.length oc) ∧ w'.cell? ⟨g0 + 1, 1, none⟩ = some (.int .i64 b) ∧ w'.cell? ⟨g0 + 1, 2, none⟩ = some (.int .i64 (i : Int))) (by kernel_rfl) ⟨(unhide HC).cell (i := 1) rfl, (unhide HO).cell (i := 1) rfl, (unhide HO).cell (i := 2) rfl⟩ (fun hHeld => ?_)
        refine wpAnyH_take (i := 0) (v := ?_) rfl (by kernel_rfl) (by kernel_rfl) (by kernel_rfl) (fun _ _ _ h => h) (Or.inl ⟨by rfl, ?_⟩) (by assumption) ?_
        rotate_left
        · intro wy hSw
          obtain ⟨hS0, hS1, hS2⟩ := hSw
          go_simp
          try with_reducible rfl
        try simp only [Act.put, List.getElem_toArray, List.getElem_cons_zero, List.setIfInBounds_toArray, List.set_cons_zero, List.set_cons_succ]
        refine wpAnyH_take (i := 1) (v := ?_) rfl (by kernel_rfl) (by kernel_rfl) (by kernel_rfl) (fun _ _ _ h => h) (Or.inl ⟨by rfl, ?_⟩) (by assumption) ?_
        rotate_left
        · intro wy hSw
          obtain ⟨hS0, hS1, hS2⟩ := hSw
          go_simp
          try with_reducible rfl
        try simp only [Act.put, List.getElem_toArray, List.getElem_cons_succ, List.getElem_cons_zero, List.setIfInBounds_toArray, List.set_cons_zero, List.set_cons_succ]
        refine wpAnyH_take (i := 2) (v := ?_) rfl (by kernel_rfl) (by kernel_rfl) (by kernel_rfl) (fun _ _ _ h => h) (Or.inl ⟨by rfl, ?_⟩) (by assumption) ?_
        rotate_left
        · intro wy hSw
          obtain ⟨hS0, hS1, hS2⟩ := hSw
          go_simp
          try with_reducible rfl
        try simp only [Act.put, List.getElem_toArray, List.getElem_cons_succ, List.getElem_cons_zero, List.setIfInBounds_toArray, List.set_cons_zero, List.set_cons_succ]
        refine wpAnyH_take (i := 3) (v := ?_) rfl (by kernel_rfl) (by kernel_rfl) (by kernel_rfl) (fun _ _ _ h => h) (Or.inl ⟨by rfl, ?_⟩) (by assumption) ?_
        rotate_left
        · intro wy hSw
          obtain ⟨hS0, hS1, hS2⟩ := hSw
          go_simp
          try with_reducible rfl
        try simp only [Act.put, List.getElem_toArray, List.getElem_cons_succ, List.getElem_cons_zero, List.setIfInBounds_toArray, List.set_cons_zero, List.set_cons_succ]
        refine wpAnyH_take (i := 4) (v := ?_) rfl (by kernel_rfl) (by kernel_rfl) (by kernel_rfl) (fun _ _ _ h => h) (Or.inl ⟨by rfl, ?_⟩) (by assumption) ?_
        rotate_left
        · intro wy hSw
          obtain ⟨hS0, hS1, hS2⟩ := hSw
          go_simp
          try with_reducible rfl
        try simp only [Act.put, List.getElem_toArray, List.getElem_cons_succ, List.getElem_cons_zero, List.setIfInBounds_toArray, List.set_cons_zero, List.set_cons_succ]
        refine wpAnyH_take (i := 5) (v := ?_) rfl (by kernel_rfl) (by kernel_rfl) (by kernel_rfl) (fun _ _ _ h => h) (Or.inl ⟨by rfl, ?_⟩) (by assumption) ?_
        rotate_left
        · intro wy hSw
          obtain ⟨hS0, hS1, hS2⟩ := hSw
          go_simp
          try with_reducible rfl
        try simp only [Act.put, List.getElem_toArray, List.getElem_cons_succ, List.getElem_cons_zero, List.setIfInBounds_toArray, List.set_cons_zero, List.set_cons_succ]
        refine wpAnyH_take (i := 6) (v := ?_) rfl (by kernel_rfl) (by kernel_rfl) (by kernel_rfl) (fun _ _ _ h => h) (Or.inl ⟨by rfl, ?_⟩) (by assumption) ?_
        rotate_left
        · intro wy hSw
          obtain ⟨hS0, hS1, hS2⟩ := hSw
          go_simp
          try with_reducible rfl
        try simp only [Act.put, List.getElem_toArray, List.getElem_cons_succ, List.getElem_cons_zero, List.setIfInBounds_toArray, List.set_cons_zero, List.set_cons_succ]
        refine wpAnyH_take (i := 7) (v := ?_) rfl (by kernel_rfl) (by kernel_rfl) (by kernel_rfl) (fun _ _ _ h => h) (Or.inl ⟨by rfl, ?_⟩) (by assumption) ?_
        rotate_left
        · intro wy hSw
          obtain ⟨hS0, hS1, hS2⟩ := hSw
          go_simp
          try with_reducible rfl
        try simp only [Act.put, List.getElem_toArray, List.getElem_cons_succ, List.getElem_cons_zero, List.setIfInBounds_toArray, List.set_cons_zero, List.set_cons_succ]
        refine wpAnyH_take (i := 8) (v := ?_) rfl (by kernel_rfl) (by kernel_rfl) (by kernel_rfl) (fun _ _ _ h => h) (Or.inl ⟨by rfl, ?_⟩) (by assumption) ?_
        rotate_left
        · intro wy hSw
          obtain ⟨hS0, hS1, hS2⟩ := hSw
          go_simp
          try with_reducible rfl
        try simp only [Act.put, List.getElem_toArray, List.getElem_cons_succ, List.getElem_cons_zero, List.setIfInBounds_toArray, List.set_cons_zero, List.set_cons_succ]
        refine wpAnyH_take (i := 10) (v := ?_) rfl (by kernel_rfl) (by kernel_rfl) (by kernel_rfl) (fun _ _ _ h => h) (Or.inl ⟨by rfl, ?_⟩) (by assumption) ?_
        rotate_left
        · intro wy hSw
          obtain ⟨hS0, hS1, hS2⟩ := hSw
          go_simp
          try with_reducible rfl
        try simp only [Act.put, List.getElem_toArray, List.getElem_cons_succ, List.getElem_cons_zero, List.setIfInBounds_toArray, List.set_cons_zero, List.set_cons_succ]
        refine wpAnyH_take (i := 11) (v := ?_) rfl (by kernel_rfl) (by kernel_rfl) (by kernel_rfl) (fun _ _ _ h => h) (Or.inl ⟨by rfl, ?_⟩) (by assumption) ?_
        rotate_left
        · intro wy hSw
          obtain ⟨hS0, hS1, hS2⟩ := hSw
          go_simp
          try with_reducible rfl
        try simp only [Act.put, List.getElem_toArray, List.getElem_cons_succ, List.getElem_cons_zero, List.setIfInBounds_toArray, List.set_cons_zero, List.set_cons_succ]
        refine wpAnyH_ready (rs := [9, 12]) (by kernel_rfl) (by simp) ?_
        refine AllReadyH.cons rfl (fun K hK => ?_) (AllReadyH.cons rfl (fun K hK => ?_) AllReadyH.nil)
        · go_simp
          refine hK.out _ _ hHeld (fun hHeld => ?_)
          clear hK K
          try simp only [Act.put, List.setIfInBounds_toArray, List.set_cons_zero, List.set_cons_succ]
          refine wpAnyH_ready (rs := [12]) (by kernel_rfl) (by simp) ?_
          refine AllReadyH.cons rfl (fun K hK => ?_) AllReadyH.nil
          go_simp
          refine hK.out _ _ ⟨wcell3 hHeld.1 (Below.alloc1 _ _), wcell3 hHeld.2.1 (Below.alloc1 _ _), wcell3 hHeld.2.2 (Below.alloc1 _ _)⟩ (fun hHeld => ?_)
          clear hK K
          try simp only [Act.put, List.setIfInBounds_toArray, List.set_cons_zero, List.set_cons_succ]
          refine wpAnyH_ready (rs := [13]) (by kernel_rfl) (by simp) ?_
          refine AllReadyH.cons rfl (fun K hK => ?_) AllReadyH.nil
          refine step_appTo tyI (by rfl) (.tmp 60) (.tmp 63) (by rfl) 0 (A i) m (C i) (R.getD i []) (by rfl) ((unhide HRB).below ((Below.refl _ _).drew.trans (Below.alloc1 wz.drew _))) (Nat.zero_le _) (by omega) (some ⟨wz.heap.size, 0, none⟩) 1 1 [b] (by rfl) (recs_oneI wz.drew _ _) (by omega) ?_
          intro g1 c1 w7 h1 hk1 hor1
          have HK1 : Hid (Kept (fun k => k = A i) wz w7) := (kept_of_below ((Below.refl _ _).drew.trans (Below.alloc1 wz.drew _))).trans hk1
          have hg1 : g1 = A i ∨ wz.heap.size ≤ g1 := by rcases hor1 with e | e <;> first | exact Or.inl e | (right; simp at e; omega)
          have HTP1 := hide ((unhide HS).top.kept (unhide HK1) (fun e => hgoA e.symm))
          have cb1 := (unhide HTP1).cell (tops_get A C R hiR)
          have fb1 := (unhide HTP1).frozen i
          rw [unhide EM] at cb1
          have hWB := unhide HW
          have HW7 := hide (below_keptS hWB (unhide HK1) hWB.size (fun b e => by omega))
          have HC7 := hide ((unhide HC).kept (unhide HK1) (by omega))
          have HO7 := hide ((unhide HO).kept (unhide HK1) (by omega))
          have HA7 := hide ((unhide HA).kept (unhide HK1) (by omega))
          refine hK.out _ _ ⟨(unhide HC7).cell (i := 1) rfl, (unhide HO7).cell (i := 1) rfl, (unhide HO7).cell (i := 2) rfl⟩ (fun hHeld => ?_)
          clear hK K
          try simp only [Act.put, List.setIfInBounds_toArray]
          refine wpAnyH_take (i := 14) (v := ?_) rfl (by kernel_rfl) (by kernel_rfl) (by kernel_rfl) (fun _ _ _ h => h) (Or.inl ⟨by rfl, ?_⟩) (by assumption) ?_
          rotate_left
          · intro wy hSw
            obtain ⟨hS0, hS1, hS2⟩ := hSw
            go_simp
            try with_reducible rfl
          try simp only [Act.put, List.getElem_toArray, List.getElem_cons_succ, List.getElem_cons_zero, List.setIfInBounds_toArray, List.set_cons_zero, List.set_cons_succ]
          refine wpAnyH_ready (rs := [15]) (by kernel_rfl) (by simp) ?_
          refine AllReadyH.cons rfl (fun K hK => ?_) AllReadyH.nil
          have HN := hide ((unhide HS).put (row := R.getD i [] ++ [b]) (g' := g1) (cap' := c1) hiR (unhide HK1) (by rw [List.length_append, unhide EM]; exact h1) (hg1.imp id fun e => ⟨e, unhide HUM g1 (by omega)⟩))
          rw [List.length_append, unhide EM] at HN
          have HKS : Hid (Kept (fun k => k = go) w7 (w7.setCell ⟨go, i, none⟩ (.slice (some ⟨g1, 0, none⟩) (m + 1) c1))) := (Kept.refl (fun k => k = go) _).setCell (p := ⟨go, i, none⟩) rfl _
          have hWB7 := unhide HW7
          replace HW7 := hide (below_keptS hWB7 (unhide HKS) hWB7.size (fun b e => by omega))
          replace HC7 := hide ((unhide HC7).kept (unhide HKS) (by omega))
          replace HO7 := hide ((unhide HO7).kept (unhide HKS) (by omega))
          replace HA7 := hide ((unhide HA7).kept (unhide HKS) (by omega))
          go_simp
          refine hK.out _ _ ⟨(unhide HC7).cell (i := 1) rfl, (unhide HO7).cell (i := 1) rfl, (unhide HO7).cell (i := 2) rfl⟩ (fun hHeld => ?_)
          clear hK K
          try simp only [Act.put, List.setIfInBounds_toArray, List.set_cons_zero, List.set_cons_succ]
          refine wpAnyH_done (by kernel_rfl) ?_ _
          go_wp2_with fail
          go_meet
          exact ⟨_, _, HN, HC7, HA7, HW7⟩
        · go_simp
          refine hK.out _ _ ⟨wcell3 hHeld.1 (Below.alloc1 _ _), wcell3 hHeld.2.1 (Below.alloc1 _ _), wcell3 hHeld.2.2 (Below.alloc1 _ _)⟩ (fun hHeld => ?_)
          clear hK K
          try simp only [Act.put, List.setIfInBounds_toArray, List.set_cons_zero, List.set_cons_succ]
          refine wpAnyH_ready (rs := [9]) (by kernel_rfl) (by simp) ?_
          refine AllReadyH.cons rfl (fun K hK => ?_) AllReadyH.nil
          have cbx := wcell3 hcell (Below.alloc1 wz (.cells #[.int .i64 b] 3))
          go_simp
          clear cbx
          refine hK.out _ _ hHeld (fun hHeld => ?_)
          clear hK K
          try simp only [Act.put, List.setIfInBounds_toArray, List.set_cons_zero, List.set_cons_succ]
          refine wpAnyH_ready (rs := [13]) (by kernel_rfl) (by simp) ?_
          refine AllReadyH.cons rfl (fun K hK => ?_) AllReadyH.nil
          refine step_appTo tyI (by rfl) (.tmp 60) (.tmp 63) (by rfl) 0 (A i) m (C i) (R.getD i []) (by rfl) ((unhide HRB).below ((Below.refl _ _).drew.trans (Below.alloc1 wz.drew _))) (Nat.zero_le _) (by omega) (some ⟨wz.heap.size, 0, none⟩) 1 1 [b] (by rfl) (recs_oneI wz.drew _ _) (by omega) ?_
          intro g1 c1 w7 h1 hk1 hor1
          have HK1 : Hid (Kept (fun k => k = A i) wz w7) := (kept_of_below ((Below.refl _ _).drew.trans (Below.alloc1 wz.drew _))).trans hk1
          have hg1 : g1 = A i ∨ wz.heap.size ≤ g1 := by rcases hor1 with e | e <;> first | exact Or.inl e | (right; simp at e; omega)
          have HTP1 := hide ((unhide HS).top.kept (unhide HK1) (fun e => hgoA e.symm))
          have cb1 := (unhide HTP1).cell (tops_get A C R hiR)
          have fb1 := (unhide HTP1).frozen i
          rw [unhide EM] at cb1
          have hWB := unhide HW
          have HW7 := hide (below_keptS hWB (unhide HK1) hWB.size (fun b e => by omega))
          have HC7 := hide ((unhide HC).kept (unhide HK1) (by omega))
          have HO7 := hide ((unhide HO).kept (unhide HK1) (by omega))
          have HA7 := hide ((unhide HA).kept (unhide HK1) (by omega))
          refine hK.out _ _ ⟨(unhide HC7).cell (i := 1) rfl, (unhide HO7).cell (i := 1) rfl, (unhide HO7).cell (i := 2) rfl⟩ (fun hHeld => ?_)
          clear hK K
          try simp only [Act.put, List.setIfInBounds_toArray]
          refine wpAnyH_take (i := 14) (v := ?_) rfl (by kernel_rfl) (by kernel_rfl) (by kernel_rfl) (fun _ _ _ h => h) (Or.inl ⟨by rfl, ?_⟩) (by assumption) ?_
          rotate_left
          · intro wy hSw
            obtain ⟨hS0, hS1, hS2⟩ := hSw
            go_simp
            try with_reducible rfl
          try simp only [Act.put, List.getElem_toArray, List.getElem_cons_succ, List.getElem_cons_zero, List.setIfInBounds_toArray, List.set_cons_zero, List.set_cons_succ]
          refine wpAnyH_ready (rs := [15]) (by kernel_rfl) (by simp) ?_
          refine AllReadyH.cons rfl (fun K hK => ?_) AllReadyH.nil
          have HN := hide ((unhide HS).put (row := R.getD i [] ++ [b]) (g' := g1) (cap' := c1) hiR (unhide HK1) (by rw [List.length_append, unhide EM]; exact h1) (hg1.imp id fun e => ⟨e, unhide HUM g1 (by omega)⟩))
          rw [List.length_append, unhide EM] at HN
          have HKS : Hid (Kept (fun k => k = go) w7 (w7.setCell ⟨go, i, none⟩ (.slice (some ⟨g1, 0, none⟩) (m + 1) c1))) := (Kept.refl (fun k => k = go) _).setCell (p := ⟨go, i, none⟩) rfl _
          have hWB7 := unhide HW7
          replace HW7 := hide (below_keptS hWB7 (unhide HKS) hWB7.size (fun b e => by omega))
          replace HC7 := hide ((unhide HC7).kept (unhide HKS) (by omega))
          replace HO7 := hide ((unhide HO7).kept (unhide HKS) (by omega))
          replace HA7 := hide ((unhide HA7).kept (unhide HKS) (by omega))
          go_simp
          refine hK.out _ _ ⟨(unhide HC7).cell (i := 1) rfl, (unhide HO7).cell (i := 1) rfl, (unhide HO7).cell (i := 2) rfl⟩ (fun hHeld => ?_)
          clear hK K
          try simp only [Act.put, List.setIfInBounds_toArray, List.set_cons_zero, List.set_cons_succ]
          refine wpAnyH_done (by kernel_rfl) ?_ _
          go_wp2_with fail
          go_meet
          exact ⟨_, _, HN, HC7, HA7, HW7⟩
      case rest =>
        clear HS HC HA HW HB HO hcell hfro HRB
        obtain ⟨A1, C1, HS, HC, HA, HW⟩ := hcut
        have c0 := (unhide HC).cell (i := 0) rfl
        have c1 := (unhide HC).cell (i := 1) rfl
        have HKS : Hid (Kept (fun b => b = g0 + 1 + 1) wc ((wc.setCell ⟨g0 + 1 + 1, 0, none⟩ (.int .i64 H)).setCell ⟨g0 + 1 + 1, 1, none⟩ (.slice (some ⟨go, 0, none⟩) R.length oc))) := ((Kept.refl (fun b => b = g0 + 1 + 1) _).setCell (p := ⟨g0 + 1 + 1, 0, none⟩) rfl _).setCell (p := ⟨g0 + 1 + 1, 1, none⟩) rfl _
        have rf0 := (unhide HA).frozen 0
        have rf1 := (unhide HA).frozen 1
        have r0 := (unhide HA).cell (i := 0) rfl
        have r1 := (unhide HA).cell (i := 1) rfl
        have f0 := (((unhide HA).set 0 (.int .i64 H) (by simp)).set 1 (.slice (some ⟨go, 0, none⟩) R.length oc) (by simp)).cell (i := 0) rfl
        have f1 := (((unhide HA).set 0 (.int .i64 H) (by simp)).set 1 (.slice (some ⟨go, 0, none⟩) R.length oc) (by simp)).cell (i := 1) rfl
        have hWB : Below w.heap.size w wc := unhide HW
        go_wp2
        refine bodyPost_ret (v := .tuple #[.agg #[.int .i64 H, .slice (some ⟨go, 0, none⟩) R.length oc], .int .i64 0, .int .i64 0]) (by simp [results, Try.results27, go_sem, f0, f1]) rfl ?_
        have eD := unhide HD
        simp only [Prod.mk.injEq] at eD
        obtain ⟨e1, e2, e3⟩ := eD
        subst e1 e2 e3
        exact ⟨_, _, _, rfl, fun V hV => (by have hr := (((unhide HS).kept (unhide HKS) (fun k hk e => by have := unhide HUK k hk; omega)).kept hV (fun k hk e => by have := unhide HUK k hk; have e : k < w.heap.size := e; omega)).rows (cap := oc) (by rw [List.length_set]; omega) (by unfold maxLen; omega); rw [List.length_set] at hr; exact hr), below_keptS hWB (unhide HKS) hWB.size (fun b e => by omega)⟩

end Go.Proofs.Ytdiifkeebgdfkaa

namespace Go.Proofs.Ytdiifkeebgdfkaa
open Go.RowKit

set_option maxRecDepth 100000 in
set_option maxHeartbeats 16000000 in
theorem specDoYard_3 (H : Int) (ao : Option Addr) (cap : Nat) (R : List (List Int)) (b s : Int) (w : World) (h : RowsIn w (.slice ao R.length cap) R) (hy : YOk H R) (ho : opB R.length 3 b s = true) :
    Calls Try.prog 27 #[yardV H (.slice ao R.length cap), vYardOp 3 b s] w fun e w' => SDoA w H (doY H R 3 b s) e w' := by
  obtain ⟨⟨D1, D2, D3⟩, eD⟩ : ∃ D, D = doY H R 3 b s := ⟨_, rfl⟩
  rw [← eD]
  have ED := hide eD
  clear eD
  have HY := hide hy
  have hn1 := hy.n1
  have hn2 := hy.n2
  have hH2 := hy.h2
  have HV := hide h
  obtain ⟨-, -, -, hc1, hc2⟩ := rows_cap h
  have HOB := hide ho
  have HCPY := hide fun W (hb : Below w.heap.size w W) => l18Copy_any H (.slice ao R.length cap) R W (h.below hb) (by omega) (fun s hs => by have := hy.low s hs; have := hy.h2; omega)
  have HYK := hide fun W (hb : Below w.heap.size w W) => specYardOk_any H (.slice ao R.length cap) R W (h.below hb)
  rw [show yardB H R = true from decide_eq_true hy] at HYK
  have HOP := hide fun W => l18Op_any H ao R.length cap 3 b s W (by omega)
  rw [ho] at HOP
  have HFB := hide fun W (hb : Below w.heap.size w W) => specFindBox_any H (.slice ao R.length cap) R b W (h.below hb)
  have HLOW : Hid (∀ s, s < R.length → (R.getD s []).length ≤ 6) := fun s hs => by have := hy.low s hs; have := hy.h2; omega
  clear h ho hy
  unfold vYardOp yardV at HOP ⊢
  unfold yardV at HYK HFB HCPY
  go_enter Try.func27, Try.ntmps27
  go_upto_region 1 with (fail)
  obtain ⟨g0, eg0⟩ : ∃ z, z = w.heap.size := ⟨_, rfl⟩
  obtain ⟨W, eW⟩ : ∃ z, z = ((w.alloc (.cells #[.int .i64 H, .slice ao R.length cap] 26)).alloc (.cells #[.int .i64 3, .int .i64 b, .int .i64 s] 34)).alloc (.cells #[.int .i64 0, .slice none 0 0] 26) := ⟨_, rfl⟩
  have HW : Hid (Below w.heap.size w W) := by rw [eW]; exact Below.step (Below.step (Below.alloc1 _ _) (Below.alloc1 _ _)) (Below.alloc1 _ _)
  have HB : Hid (OwnV W g0 [.int .i64 H, .slice ao R.length cap]) := by rw [eW, eg0]; exact ((ownV_alloc _ _ _).step (Below.alloc1 _ _)).step (Below.alloc1 _ _)
  have HO : Hid (OwnV W (g0 + 1) [.int .i64 3, .int .i64 b, .int .i64 s]) := by rw [eW, eg0]; exact (own_newS _ _ _ _ (by simp)).step (Below.alloc1 _ _)
  have HA : Hid (OwnV W (g0 + 1 + 1) [.int .i64 0, .slice none 0 0]) := by rw [eW, eg0]; exact own_newS _ _ _ _ (by simp)
  rw [← eW, ← eg0]
  have hg0 : w.heap.size ≤ g0 := by omega
  clear eW eg0
  obtain ⟨gU, egU⟩ : ∃ z, z = W.heap.size := ⟨_, rfl⟩
  have hgU : g0 + 1 + 1 < gU := by rw [egU]; exact (unhide HA).lt
  have b0 := (unhide HB).cell (i := 0) rfl
  have b1 := (unhide HB).cell (i := 1) rfl
  go_wp2_with fail
  refine (unhide HCPY _ (unhide HW)).mono ?_
  intro e w1 hcp
  obtain ⟨go, A, C, oc, rfl, ho1, ho2, hS, hb⟩ := cpA_sy hcp hn1
  replace HW := hide (Below.step (unhide HW) hb)
  replace HB := hide ((unhide HB).step hb)
  replace HO := hide ((unhide HO).step hb)
  replace HA := hide ((unhide HA).step hb)
  clear hcp b0 b1
  unfold yardV
  rw [← egU] at hS
  have HS := hide hS.under
  obtain ⟨gb, egb⟩ : ∃ z, z = w1.heap.size := ⟨_, rfl⟩
  rw [← egb] at HS
  have hgb : gU ≤ gb := by rw [egb, egU]; exact hb.size
  clear hS hb egU
  go_upto_region 2 with (fail)
  obtain ⟨W2, eW⟩ : ∃ z, z = w1.alloc (.cells #[.int .i64 H, .slice (some ⟨go, 0, none⟩) R.length oc] 26) := ⟨_, rfl⟩
  have hb : Below w1.heap.size w1 W2 := by rw [eW]; exact Below.alloc1 _ _
  have HC : Hid (OwnV W2 gb [.int .i64 H, .slice (some ⟨go, 0, none⟩) R.length oc]) := by rw [eW, egb]; exact ownV_alloc _ _ _
  rw [← eW, ← egb]
  replace HW := hide (Below.step (unhide HW) hb)
  replace HB := hide ((unhide HB).step hb)
  replace HO := hide ((unhide HO).step hb)
  replace HA := hide ((unhide HA).step hb)
  replace HS := hide ((unhide HS).below hb)
  clear hb eW egb
  obtain ⟨U, eU⟩ : ∃ z : Nat → Prop, z = fun k => gU ≤ k ∧ k ≠ gb := ⟨_, rfl⟩
  rw [← eU] at HS
  have HUK : Hid (∀ k, U k → gU ≤ k ∧ k ≠ gb) := fun k hk => by rw [eU] at hk; exact hk
  have HUM : Hid (∀ k, gb < k → U k) := fun k hk => by rw [eU]; exact ⟨by omega, by omega⟩
  clear eU
  unfold maxLen at ho2
  have b0 := (unhide HB).cell (i := 0) rfl
  have b1 := (unhide HB).cell (i := 1) rfl
  have o0 := (unhide HO).cell (i := 0) rfl
  have o1 := (unhide HO).cell (i := 1) rfl
  have o2 := (unhide HO).cell (i := 2) rfl
  go_wp2_with fail
  refine (unhide HYK _ (unhide HW)).mono ?_
  rintro e w2 ⟨rfl, hb⟩
  replace HW := hide (Below.step (unhide HW) hb)
  replace HB := hide ((unhide HB).step hb)
  replace HO := hide ((unhide HO).step hb)
  replace HA := hide ((unhide HA).step hb)
  replace HC := hide ((unhide HC).step hb)
  replace HS := hide ((unhide HS).below hb)
  clear hb b0 b1 o0 o1 o2
  have b0 := (unhide HB).cell (i := 0) rfl
  have b1 := (unhide HB).cell (i := 1) rfl
  have o0 := (unhide HO).cell (i := 0) rfl
  have o1 := (unhide HO).cell (i := 1) rfl
  have o2 := (unhide HO).cell (i := 2) rfl
  go_wp2_with fail
  refine (unhide HOP _).mono ?_
  rintro e w3 ⟨rfl, hb⟩
  replace HW := hide (Below.step (unhide HW) hb)
  replace HB := hide ((unhide HB).step hb)
  replace HO := hide ((unhide HO).step hb)
  replace HA := hide ((unhide HA).step hb)
  replace HC := hide ((unhide HC).step hb)
  replace HS := hide ((unhide HS).below hb)
  clear hb b0 b1 o0 o1 o2
  clear HYK HOP
  have b0 := (unhide HB).cell (i := 0) rfl
  have b1 := (unhide HB).cell (i := 1) rfl
  have o0 := (unhide HO).cell (i := 0) rfl
  have o1 := (unhide HO).cell (i := 1) rfl
  have o2 := (unhide HO).cell (i := 2) rfl
  go_wp2_with fail
  refine (unhide HFB _ (unhide HW)).mono ?_
  rintro e w4 ⟨rfl, hb⟩
  replace HW := hide (Below.step (unhide HW) hb)
  replace HB := hide ((unhide HB).step hb)
  replace HO := hide ((unhide HO).step hb)
  replace HA := hide ((unhide HA).step hb)
  replace HC := hide ((unhide HC).step hb)
  replace HS := hide ((unhide HS).below hb)
  clear hb b0 b1 o0 o1 o2
  clear HFB
  have HD1 := hide fun hf => (unhide ED).trans (sdo_sh1 (unhide HY) (unhide HOB) hf)
  have HD2 := hide fun hf hl => (unhide ED).trans (sdo_sh2 (unhide HY) (unhide HOB) hf hl)
  have HD3 := hide fun hf hl => (unhide ED).trans (sdo_sh3 (unhide HY) (unhide HOB) hf hl)
  obtain ⟨s0, s1, b0, b1, hbs⟩ := opB_sh (unhide HOB)
  obtain ⟨i, ei⟩ : ∃ i : Nat, s = (i : Int) := ⟨s.toNat, by omega⟩
  subst ei
  obtain ⟨j, ej⟩ : ∃ j : Nat, b = (j : Int) := ⟨b.toNat, by omega⟩
  subst ej
  rw [Int.toNat_natCast] at HD1
  rw [Int.toNat_natCast, Int.toNat_natCast] at HD2 HD3
  have hiR : i < R.length := by omega
  have hjR : j < R.length := by omega
  have hii : (i : Int) < (R.length : Int) := by omega
  have hjj : (j : Int) < (R.length : Int) := by omega
  have hij : j ≠ i := by omega
  clear b0 b1 hbs
  generalize findV H R (j : Int) = fv
  obtain ⟨f1, f2, f3⟩ := fv
  dsimp only
  have hrow := ((unhide HS).at hiR).1
  have hrowj := ((unhide HS).at hjR).1
  have hm6 := unhide HLOW i hiR
  have hmj6 := unhide HLOW j hjR
  have hmc := ((unhide HS).caps hiR).2.1
  have hmcj := ((unhide HS).caps hjR).2.1
  obtain ⟨m, em⟩ : ∃ m, (R.getD i []).length = m := ⟨_, rfl⟩
  obtain ⟨mj, emj⟩ : ∃ m, (R.getD j []).length = m := ⟨_, rfl⟩
  rw [em] at hrow hm6 hmc HD2 HD3
  rw [emj] at hrowj hmj6 hmcj HD1 HD2 HD3
  have EM := hide em
  have EMJ := hide emj
  clear em emj
  have o0 := (unhide HO).cell (i := 0) rfl
  have o1 := (unhide HO).cell (i := 1) rfl
  have c1 := (unhide HC).cell (i := 1) rfl
  by_cases hz : mj = 0
  · have HD := hide (unhide HD1 hz)
    have ez : ((mj : Int) == 0) = true := by simp [hz]
    have HZ := hide hz
    clear hz
    go_upto_region 15 with (fail)
    clear o0 o1 c1 hrow hrowj
    have c0 := (unhide HC).cell (i := 0) rfl
    have c1 := (unhide HC).cell (i := 1) rfl
    have HKS : Hid (Kept (fun b => b = g0 + 1 + 1) w4 ((w4.setCell ⟨g0 + 1 + 1, 0, none⟩ (.int .i64 H)).setCell ⟨g0 + 1 + 1, 1, none⟩ (.slice (some ⟨go, 0, none⟩) R.length oc))) := ((Kept.refl (fun b => b = g0 + 1 + 1) _).setCell (p := ⟨g0 + 1 + 1, 0, none⟩) rfl _).setCell (p := ⟨g0 + 1 + 1, 1, none⟩) rfl _
    have rf0 := (unhide HA).frozen 0
    have rf1 := (unhide HA).frozen 1
    have r0 := (unhide HA).cell (i := 0) rfl
    have r1 := (unhide HA).cell (i := 1) rfl
    have f0 := (((unhide HA).set 0 (.int .i64 H) (by simp)).set 1 (.slice (some ⟨go, 0, none⟩) R.length oc) (by simp)).cell (i := 0) rfl
    have f1 := (((unhide HA).set 0 (.int .i64 H) (by simp)).set 1 (.slice (some ⟨go, 0, none⟩) R.length oc) (by simp)).cell (i := 1) rfl
    have hWB : Below w.heap.size w w4 := unhide HW
    go_wp2
    refine bodyPost_ret (v := .tuple #[.agg #[.int .i64 H, .slice (some ⟨go, 0, none⟩) R.length oc], .int .i64 0, .int .i64 3]) (by simp [results, Try.results27, go_sem, f0, f1]) rfl ?_
    have eD := unhide HD
    simp only [Prod.mk.injEq] at eD
    obtain ⟨e1, e2, e3⟩ := eD
    subst e1 e2 e3
    exact ⟨_, _, _, rfl, fun V hV => (by have hr := (((unhide HS).kept (unhide HKS) (fun k hk e => by have := unhide HUK k hk; omega)).kept hV (fun k hk e => by have := unhide HUK k hk; have e : k < w.heap.size := e; omega)).rows (cap := oc) (by omega) (by unfold maxLen; omega); exact hr), below_keptS hWB (unhide HKS) hWB.size (fun b e => by omega)⟩
  · have ez : ((mj : Int) == 0) = false := by simp; omega
    go_upto_region 16 with (fail)
    clear o0 o1 c1 hrowj ez
    by_cases hmh : (m : Int) = H
    · have emh : ((m : Int) == H) = true := by simpa using hmh
      have HD := hide (unhide HD2 hz hmh)
      clear hmh
      have gt0 := fun x' : Gr w4 => gr_cell ((unhide HB).cell (i := 0) rfl) x'
      have gt1 := fun x' : Gr w4 => gr_cell ((unhide HC).cell (i := 1) rfl) x'
      have gt2 := fun x' : Gr w4 => gr_cell ((unhide HO).cell (i := 2) rfl) x'
      have gt3 := fun x' : Gr w4 => gr_cell (hrow) x'
      have gsome := gr_some w4
      refine wp_region_grown (by kernel_rfl) (by kernel_rfl) ?_
      repeat (go_big_quiet_step (fail))
      refine wpQuiet_nil ?_
      intro wz hw1
      obtain ⟨z', hz⟩ := hw1
      have hb : Below w4.heap.size w4 wz := hz ▸ z'.ok
      clear hz z' gsome gt0 gt1 gt2 gt3
      replace HW := hide (Below.step (unhide HW) hb)
      replace HB := hide ((unhide HB).step hb)
      replace HO := hide ((unhide HO).step hb)
      replace HA := hide ((unhide HA).step hb)
      replace HC := hide ((unhide HC).step hb)
      replace HS := hide ((unhide HS).below hb)
      clear hb
      clear hrow emh
      have c0 := (unhide HC).cell (i := 0) rfl
      have c1 := (unhide HC).cell (i := 1) rfl
      have HKS : Hid (Kept (fun b => b = g0 + 1 + 1) wz ((wz.setCell ⟨g0 + 1 + 1, 0, none⟩ (.int .i64 H)).setCell ⟨g0 + 1 + 1, 1, none⟩ (.slice (some ⟨go, 0, none⟩) R.length oc))) := ((Kept.refl (fun b => b = g0 + 1 + 1) _).setCell (p := ⟨g0 + 1 + 1, 0, none⟩) rfl _).setCell (p := ⟨g0 + 1 + 1, 1, none⟩) rfl _
      have rf0 := (unhide HA).frozen 0
      have rf1 := (unhide HA).frozen 1
      have r0 := (unhide HA).cell (i := 0) rfl
      have r1 := (unhide HA).cell (i := 1) rfl
      have f0 := (((unhide HA).set 0 (.int .i64 H) (by simp)).set 1 (.slice (some ⟨go, 0, none⟩) R.length oc) (by simp)).cell (i := 0) rfl
      have f1 := (((unhide HA).set 0 (.int .i64 H) (by simp)).set 1 (.slice (some ⟨go, 0, none⟩) R.length oc) (by simp)).cell (i := 1) rfl
      have hWB : Below w.heap.size w wz := unhide HW
      go_wp2
      refine bodyPost_ret (v := .tuple #[.agg #[.int .i64 H, .slice (some ⟨go, 0, none⟩) R.length oc], .int .i64 0, .int .i64 4]) (by simp [results, Try.results27, go_sem, f0, f1]) rfl ?_
      have eD := unhide HD
      simp only [Prod.mk.injEq] at eD
      obtain ⟨e1, e2, e3⟩ := eD
      subst e1 e2 e3
      exact ⟨_, _, _, rfl, fun V hV => (by have hr := (((unhide HS).kept (unhide HKS) (fun k hk e => by have := unhide HUK k hk; omega)).kept hV (fun k hk e => by have := unhide HUK k hk; have e : k < w.heap.size := e; omega)).rows (cap := oc) (by omega) (by unfold maxLen; omega); exact hr), below_keptS hWB (unhide HKS) hWB.size (fun b e => by omega)⟩
    · have emh : ((m : Int) == H) = false := by simpa using hmh
      have HD := hide (unhide HD3 hz hmh)
      clear hmh
      have gt0 := fun x' : Gr w4 => gr_cell ((unhide HB).cell (i := 0) rfl) x'
      have gt1 := fun x' : Gr w4 => gr_cell ((unhide HC).cell (i := 1) rfl) x'
      have gt2 := fun x' : Gr w4 => gr_cell ((unhide HO).cell (i := 2) rfl) x'
      have gt3 := fun x' : Gr w4 => gr_cell (hrow) x'
      have gsome := gr_some w4
      refine wp_region_grown (by kernel_rfl) (by kernel_rfl) ?_
      repeat (go_big_quiet_step (fail))
      refine wpQuiet_nil ?_
      intro wz hw1
      obtain ⟨z', hz⟩ := hw1
      have hb : Below w4.heap.size w4 wz := hz ▸ z'.ok
      clear hz z' gsome gt0 gt1 gt2 gt3
      replace HW := hide (Below.step (unhide HW) hb)
      replace HB := hide ((unhide HB).step hb)
      replace HO := hide ((unhide HO).step hb)
      replace HA := hide ((unhide HA).step hb)
      replace HC := hide ((unhide HC).step hb)
      replace HS := hide ((unhide HS).below hb)
      clear hb
      clear hrow emh
      have HQ := hide (l18Shift_any U H go oc A C R j i wz (unhide HS) (fun k hk => unhide HUM k (by have := (unhide HC).lt; omega)) ho1 (by unfold maxLen; omega) hjR hiR hij (by rw [unhide EMJ]; omega) (by rw [unhide EMJ]; omega) (by rw [unhide EM]; omega))
      unfold yardV at HQ
      have c0 := (unhide HC).cell (i := 0) rfl
      have c1 := (unhide HC).cell (i := 1) rfl
      have o0 := (unhide HO).cell (i := 0) rfl
      have o1 := (unhide HO).cell (i := 1) rfl
      have o2 := (unhide HO).cell (i := 2) rfl
      go_wp2_with fail
      refine (unhide HQ).mono ?_
      rintro e w8 ⟨rfl, A1, C1, hS, hk⟩
      replace HB := hide ((unhide HB).kept hk (fun e => by have := unhide HUK _ e; omega))
      replace HO := hide ((unhide HO).kept hk (fun e => by have := unhide HUK _ e; omega))
      replace HA := hide ((unhide HA).kept hk (fun e => by have := unhide HUK _ e; omega))
      replace HC := hide ((unhide HC).kept hk (fun e => (unhide HUK _ e).2 rfl))
      have hWB := unhide HW
      replace HW := hide (below_keptS hWB hk hWB.size (fun k e => by have := unhide HUK _ e; omega))
      clear hWB
      clear HS
      have HS := hide hS
      clear hS hk HQ c0 c1 o0 o1 o2
      have c0 := (unhide HC).cell (i := 0) rfl
      have c1 := (unhide HC).cell (i := 1) rfl
      have HKS : Hid (Kept (fun b => b = g0 + 1 + 1) w8 ((w8.setCell ⟨g0 + 1 + 1, 0, none⟩ (.int .i64 H)).setCell ⟨g0 + 1 + 1, 1, none⟩ (.slice (some ⟨go, 0, none⟩) R.length oc))) := ((Kept.refl (fun b => b = g0 + 1 + 1) _).setCell (p := ⟨g0 + 1 + 1, 0, none⟩) rfl _).setCell (p := ⟨g0 + 1 + 1, 1, none⟩) rfl _
      have rf0 := (unhide HA).frozen 0
      have rf1 := (unhide HA).frozen 1
      have r0 := (unhide HA).cell (i := 0) rfl
      have r1 := (unhide HA).cell (i := 1) rfl
      have f0 := (((unhide HA).set 0 (.int .i64 H) (by simp)).set 1 (.slice (some ⟨go, 0, none⟩) R.length oc) (by simp)).cell (i := 0) rfl
      have f1 := (((unhide HA).set 0 (.int .i64 H) (by simp)).set 1 (.slice (some ⟨go, 0, none⟩) R.length oc) (by simp)).cell (i := 1) rfl
      have hWB : Below w.heap.size w w8 := unhide HW
      go_wp2
      refine bodyPost_ret (v := .tuple #[.agg #[.int .i64 H, .slice (some ⟨go, 0, none⟩) R.length oc], .int .i64 0, .int .i64 0]) (by simp [results, Try.results27, go_sem, f0, f1]) rfl ?_
      have eD := unhide HD
      simp only [Prod.mk.injEq] at eD
      obtain ⟨e1, e2, e3⟩ := eD
      subst e1 e2 e3
      exact ⟨_, _, _, rfl, fun V hV => (by have hr := (((unhide HS).kept (unhide HKS) (fun k hk e => by have := unhide HUK k hk; omega)).kept hV (fun k hk e => by have := unhide HUK k hk; have e : k < w.heap.size := e; omega)).rows (cap := oc) (by rw [shift_len]; omega) (by unfold maxLen; omega); rw [shift_len] at hr; exact hr), below_keptS hWB (unhide HKS) hWB.size (fun b e => by omega)⟩

end Go.Proofs.Ytdiifkeebgdfkaa

namespace Go.Proofs.Ytdiifkeebgdfkaa
open Go.RowKit

set_option maxRecDepth 100000 in
set_option maxHeartbeats 16000000 in
theorem specDoYard_2 (H : Int) (ao : Option Addr) (cap : Nat) (R : List (List Int)) (b s : Int) (w : World) (h : RowsIn w (.slice ao R.length cap) R) (hy : YOk H R) (ho : opB R.length 2 b s = true) :
    Calls Try.prog 27 #[yardV H (.slice ao R.length cap), vYardOp 2 b s] w fun e w' => SDoA w H (doY H R 2 b s) e w' := by
  obtain ⟨⟨D1, D2, D3⟩, eD⟩ : ∃ D, D = doY H R 2 b s := ⟨_, rfl⟩
  rw [← eD]
  have ED := hide eD
  clear eD
  have HY := hide hy
  have hn1 := hy.n1
  have hn2 := hy.n2
  have hH2 := hy.h2
  have HV := hide h
  obtain ⟨-, -, -, hc1, hc2⟩ := rows_cap h
  have HOB := hide ho
  have HCPY := hide fun W (hb : Below w.heap.size w W) => l18Copy_any H (.slice ao R.length cap) R W (h.below hb) (by omega) (fun s hs => by have := hy.low s hs; have := hy.h2; omega)
  have HYK := hide fun W (hb : Below w.heap.size w W) => specYardOk_any H (.slice ao R.length cap) R W (h.below hb)
  rw [show yardB H R = true from decide_eq_true hy] at HYK
  have HOP := hide fun W => l18Op_any H ao R.length cap 2 b s W (by omega)
  rw [ho] at HOP
  have HFB := hide fun W (hb : Below w.heap.size w W) => specFindBox_any H (.slice ao R.length cap) R b W (h.below hb)
  have HLOW : Hid (∀ s, s < R.length → (R.getD s []).length ≤ 6) := fun s hs => by have := hy.low s hs; have := hy.h2; omega
  clear h ho hy
  unfold vYardOp yardV at HOP ⊢
  unfold yardV at HYK HFB HCPY
  go_enter Try.func27, Try.ntmps27
  go_upto_region 1 with (fail)
  obtain ⟨g0, eg0⟩ : ∃ z, z = w.heap.size := ⟨_, rfl⟩
  obtain ⟨W, eW⟩ : ∃ z, z = ((w.alloc (.cells #[.int .i64 H, .slice ao R.length cap] 26)).alloc (.cells #[.int .i64 2, .int .i64 b, .int .i64 s] 34)).alloc (.cells #[.int .i64 0, .slice none 0 0] 26) := ⟨_, rfl⟩
  have HW : Hid (Below w.heap.size w W) := by rw [eW]; exact Below.step (Below.step (Below.alloc1 _ _) (Below.alloc1 _ _)) (Below.alloc1 _ _)
  have HB : Hid (OwnV W g0 [.int .i64 H, .slice ao R.length cap]) := by rw [eW, eg0]; exact ((ownV_alloc _ _ _).step (Below.alloc1 _ _)).step (Below.alloc1 _ _)
  have HO : Hid (OwnV W (g0 + 1) [.int .i64 2, .int .i64 b, .int .i64 s]) := by rw [eW, eg0]; exact (own_newS _ _ _ _ (by simp)).step (Below.alloc1 _ _)
  have HA : Hid (OwnV W (g0 + 1 + 1) [.int .i64 0, .slice none 0 0]) := by rw [eW, eg0]; exact own_newS _ _ _ _ (by simp)
  rw [← eW, ← eg0]
  have hg0 : w.heap.size ≤ g0 := by omega
  clear eW eg0
  obtain ⟨gU, egU⟩ : ∃ z, z = W.heap.size := ⟨_, rfl⟩
  have hgU : g0 + 1 + 1 < gU := by rw [egU]; exact (unhide HA).lt
  have b0 := (unhide HB).cell (i := 0) rfl
  have b1 := (unhide HB).cell (i := 1) rfl
  go_wp2_with fail
  refine (unhide HCPY _ (unhide HW)).mono ?_
  intro e w1 hcp
  obtain ⟨go, A, C, oc, rfl, ho1, ho2, hS, hb⟩ := cpA_sy hcp hn1
  replace HW := hide (Below.step (unhide HW) hb)
  replace HB := hide ((unhide HB).step hb)
  replace HO := hide ((unhide HO).step hb)
  replace HA := hide ((unhide HA).step hb)
  clear hcp b0 b1
  unfold yardV
  rw [← egU] at hS
  have HS := hide hS.under
  obtain ⟨gb, egb⟩ : ∃ z, z = w1.heap.size := ⟨_, rfl⟩
  rw [← egb] at HS
  have hgb : gU ≤ gb := by rw [egb, egU]; exact hb.size
  clear hS hb egU
  go_upto_region 2 with (fail)
  obtain ⟨W2, eW⟩ : ∃ z, z = w1.alloc (.cells #[.int .i64 H, .slice (some ⟨go, 0, none⟩) R.length oc] 26) := ⟨_, rfl⟩
  have hb : Below w1.heap.size w1 W2 := by rw [eW]; exact Below.alloc1 _ _
  have HC : Hid (OwnV W2 gb [.int .i64 H, .slice (some ⟨go, 0, none⟩) R.length oc]) := by rw [eW, egb]; exact ownV_alloc _ _ _
  rw [← eW, ← egb]
  replace HW := hide (Below.step (unhide HW) hb)
  replace HB := hide ((unhide HB).step hb)
  replace HO := hide ((unhide HO).step hb)
  replace HA := hide ((unhide HA).step hb)
  replace HS := hide ((unhide HS).below hb)
  clear hb eW egb
  obtain ⟨U, eU⟩ : ∃ z : Nat → Prop, z = fun k => gU ≤ k ∧ k ≠ gb := ⟨_, rfl⟩
  rw [← eU] at HS
  have HUK : Hid (∀ k, U k → gU ≤ k ∧ k ≠ gb) := fun k hk => by rw [eU] at hk; exact hk
  have HUM : Hid (∀ k, gb < k → U k) := fun k hk => by rw [eU]; exact ⟨by omega, by omega⟩
  clear eU
  unfold maxLen at ho2
  have b0 := (unhide HB).cell (i := 0) rfl
  have b1 := (unhide HB).cell (i := 1) rfl
  have o0 := (unhide HO).cell (i := 0) rfl
  have o1 := (unhide HO).cell (i := 1) rfl
  have o2 := (unhide HO).cell (i := 2) rfl
  go_wp2_with fail
  refine (unhide HYK _ (unhide HW)).mono ?_
  rintro e w2 ⟨rfl, hb⟩
  replace HW := hide (Below.step (unhide HW) hb)
  replace HB := hide ((unhide HB).step hb)
  replace HO := hide ((unhide HO).step hb)
  replace HA := hide ((unhide HA).step hb)
  replace HC := hide ((unhide HC).step hb)
  replace HS := hide ((unhide HS).below hb)
  clear hb b0 b1 o0 o1 o2
  have b0 := (unhide HB).cell (i := 0) rfl
  have b1 := (unhide HB).cell (i := 1) rfl
  have o0 := (unhide HO).cell (i := 0) rfl
  have o1 := (unhide HO).cell (i := 1) rfl
  have o2 := (unhide HO).cell (i := 2) rfl
  go_wp2_with fail
  refine (unhide HOP _).mono ?_
  rintro e w3 ⟨rfl, hb⟩
  replace HW := hide (Below.step (unhide HW) hb)
  replace HB := hide ((unhide HB).step hb)
  replace HO := hide ((unhide HO).step hb)
  replace HA := hide ((unhide HA).step hb)
  replace HC := hide ((unhide HC).step hb)
  replace HS := hide ((unhide HS).below hb)
  clear hb b0 b1 o0 o1 o2
  clear HYK HOP
  have b0 := (unhide HB).cell (i := 0) rfl
  have b1 := (unhide HB).cell (i := 1) rfl
  have o0 := (unhide HO).cell (i := 0) rfl
  have o1 := (unhide HO).cell (i := 1) rfl
  have o2 := (unhide HO).cell (i := 2) rfl
  go_wp2_with fail
  refine (unhide HFB _ (unhide HW)).mono ?_
  rintro e w4 ⟨rfl, hb⟩
  replace HW := hide (Below.step (unhide HW) hb)
  replace HB := hide ((unhide HB).step hb)
  replace HO := hide ((unhide HO).step hb)
  replace HA := hide ((unhide HA).step hb)
  replace HC := hide ((unhide HC).step hb)
  replace HS := hide ((unhide HS).below hb)
  clear hb b0 b1 o0 o1 o2
  clear HFB
  have HDN := hide fun hf => (unhide ED).trans (sdo_out1 (unhide HY) (unhide HOB) hf)
  have HDF := hide fun p hf hx => (unhide ED).trans (sdo_out2 (p := p) (unhide HY) (unhide HOB) hf hx)
  have HDD := hide fun p M hf hx => (unhide ED).trans (sdo_out3 (p := p) (M := M) (unhide HY) (unhide HOB) hf hx)
  cases hf : findB R b with
  | none =>
    rw [find_no (unhide HY) hf] at *
    have HD := hide (unhide HDN hf)
    clear hf HDN HDF HDD
    dsimp only
    have o0 := (unhide HO).cell (i := 0) rfl
    have c0 := (unhide HC).cell (i := 0) rfl
    have c1 := (unhide HC).cell (i := 1) rfl
    have HKS : Hid (Kept (fun b => b = g0 + 1 + 1) w4 ((w4.setCell ⟨g0 + 1 + 1, 0, none⟩ (.int .i64 H)).setCell ⟨g0 + 1 + 1, 1, none⟩ (.slice (some ⟨go, 0, none⟩) R.length oc))) := ((Kept.refl (fun b => b = g0 + 1 + 1) _).setCell (p := ⟨g0 + 1 + 1, 0, none⟩) rfl _).setCell (p := ⟨g0 + 1 + 1, 1, none⟩) rfl _
    have rf0 := (unhide HA).frozen 0
    have rf1 := (unhide HA).frozen 1
    have r0 := (unhide HA).cell (i := 0) rfl
    have r1 := (unhide HA).cell (i := 1) rfl
    have f0 := (((unhide HA).set 0 (.int .i64 H) (by simp)).set 1 (.slice (some ⟨go, 0, none⟩) R.length oc) (by simp)).cell (i := 0) rfl
    have f1 := (((unhide HA).set 0 (.int .i64 H) (by simp)).set 1 (.slice (some ⟨go, 0, none⟩) R.length oc) (by simp)).cell (i := 1) rfl
    have hWB : Below w.heap.size w w4 := unhide HW
    go_wp2
    refine bodyPost_ret (v := .tuple #[.agg #[.int .i64 H, .slice (some ⟨go, 0, none⟩) R.length oc], .int .i64 0, .int .i64 3]) (by simp [results, Try.results27, go_sem, f0, f1]) rfl ?_
    have eD := unhide HD
    simp only [Prod.mk.injEq] at eD
    obtain ⟨e1, e2, e3⟩ := eD
    subst e1 e2 e3
    exact ⟨_, _, _, rfl, fun V hV => (by have hr := (((unhide HS).kept (unhide HKS) (fun k hk e => by have := unhide HUK k hk; omega)).kept hV (fun k hk e => by have := unhide HUK k hk; have e : k < w.heap.size := e; omega)).rows (cap := oc) (by omega) (by unfold maxLen; omega); exact hr), below_keptS hWB (unhide HKS) hWB.size (fun b e => by omega)⟩
  | some p =>
    rw [find_at (unhide HY) hf] at *
    have HDF' := hide fun hx => unhide HDF p hf hx
    have HDD' := hide fun M hx => unhide HDD p M hf hx
    have HT := hide (TkI.start (unhide HY) hf)
    obtain ⟨a1, a2, a3⟩ := findB_at hf
    have hn6 := unhide HLOW p.1 a1
    clear hf HDN HDF HDD a3
    obtain ⟨si, t⟩ := p
    dsimp only at *
    have ht6 : t ≤ 6 := by omega
    obtain ⟨n, en⟩ : ∃ n, (R.getD si []).length - (t + 1) = n := ⟨_, rfl⟩
    have hnn : n ≤ 6 := by omega
    rw [en] at HT HDF' HDD'
    clear en a2 hn6
    have hsi : (si : Int) < (R.length : Int) := by omega
    have o0 := (unhide HO).cell (i := 0) rfl
    go_wp2
    clear o0
    go_loopg [11] n (fun gh mv wr => ∃ (M : List (List Int)) (A1 C1 : Nat → Nat), gh ≤ n ∧ mv = .int .i64 ((n - gh : Nat) : Int) ∧ Hid (TkI H R b si t n gh M) ∧ Hid (SY U wr go A1 C1 M) ∧ Hid (OwnV wr g0 [.int .i64 H, .slice ao R.length cap]) ∧ Hid (OwnV wr (g0 + 1) [.int .i64 2, .int .i64 b, .int .i64 s]) ∧ Hid (OwnV wr (g0 + 1 + 1) [.int .i64 0, .slice none 0 0]) ∧ Hid (OwnV wr gb [.int .i64 H, .slice (some ⟨go, 0, none⟩) R.length oc]) ∧ Hid (Below w.heap.size w wr))
    case atStart => exact ⟨R, A, C, Nat.le_refl _, by rw [Nat.sub_self]; rfl, HT, HS, HB, HO, HA, HC, HW⟩
    case round =>
      clear HT HS HB HO HA HC HW
      obtain ⟨M, A1, C1, hm, rfl, HT, HS, HB, HO, HA, HC, HW⟩ := hrel
      have hMl : M.length = R.length := (unhide HT).len
      have hsM : si < M.length := by omega
      have hrl := (unhide HT).row
      have hrow := ((unhide HS).at hsM).1
      have hcap := ((unhide HS).caps hsM).2.1
      have hcap2 := ((unhide HS).caps hsM).2.2.1
      unfold maxLen at hcap2
      rw [hrl] at hrow hcap
      have HML := hide hMl
      have HRL := hide hrl
      clear hMl hrl
      cases gk with
      | zero =>
        have HF := hide (unhide HT).done
        have HD := hide (unhide HDD' M (unhide HF))
        have htw : IntKind.i64.wrap ((t : Int) + 1) = (t : Int) + 1 := by rw [IntKind.wrap_i64]; omega
        have hq : ¬ ((t : Int) + 1 < ((t + 1 + 0 : Nat) : Int)) := by omega
        have c1 := (unhide HC).cell (i := 1) rfl
        have hfro := ((unhide HS).at hsM).2
        obtain ⟨la, ela⟩ : ∃ z, z = t + 1 + 0 := ⟨_, rfl⟩
        rw [← ela] at hrow hcap HRL hq
        have hlt : t ≤ la := by omega
        have htC : t ≤ C1 si := by omega
        have htCi : (t : Int) ≤ (C1 si : Int) := by omega
        have hla : (la : Int) = (t : Int) + 1 := by omega
        have HLA := hide hla
        have dq : decide ((t : Int) + 1 < (la : Int)) = false := by simpa using hq
        clear ela hq hla
        have hgoU := unhide HUK _ (unhide HS).ug
        have hng : ¬ gb = go := fun e => hgoU.2 e.symm
        have hng2 : ¬ go = gb := fun e => hng e.symm
        go_upto_region 34 with (fail)
        clear dq
        go_region
        all_goals
          have HRW := hide ((unhide HS).row si hsM)
          rw [unhide HRL] at HRW
          have hle : ((M.getD si []).take t).length = t := by rw [List.length_take, unhide HRL]; omega
          have HN := hide ((unhide HS).put (row := (M.getD si []).take t) (g' := A1 si) (cap' := C1 si) hsM (Kept.refl _ wr) (by rw [hle]; exact (unhide HRW).cut (n := t) (by omega)) (Or.inl rfl))
          rw [hle] at HN
          have hk : Kept (fun k => k = go) wr (wr.setCell ⟨go, si, none⟩ (.slice (some ⟨A1 si, 0, none⟩) t (C1 si))) := (Kept.refl (fun k => k = go) _).setCell (p := ⟨go, si, none⟩) rfl _
          have hkd := hk.trans (kept_of_below (Below.refl _ _).drew)
          clear hk
          replace HB := hide ((unhide HB).kept hkd (by omega))
          replace HO := hide ((unhide HO).kept hkd (by omega))
          replace HA := hide ((unhide HA).kept hkd (by omega))
          replace HC := hide ((unhide HC).kept hkd (by omega))
          have hWB := unhide HW
          replace HW := hide (below_keptS hWB hkd hWB.size (fun k e => by omega))
          clear hWB
          clear HS hkd hle HRW hrow c1 hfro
          have HS := hide ((unhide HN).below (Below.refl _ _).drew)
          clear HN
          obtain ⟨wx, ewx⟩ : ∃ z, z = (wr.setCell ⟨go, si, none⟩ (.slice (some ⟨A1 si, 0, none⟩) t (C1 si))).drew := ⟨_, rfl⟩
          rw [← ewx] at HS HB HO HA HC HW ⊢
          clear ewx
          have c0 := (unhide HC).cell (i := 0) rfl
          have c1 := (unhide HC).cell (i := 1) rfl
          have HKS : Hid (Kept (fun b => b = g0 + 1 + 1) wx ((wx.setCell ⟨g0 + 1 + 1, 0, none⟩ (.int .i64 H)).setCell ⟨g0 + 1 + 1, 1, none⟩ (.slice (some ⟨go, 0, none⟩) R.length oc))) := ((Kept.refl (fun b => b = g0 + 1 + 1) _).setCell (p := ⟨g0 + 1 + 1, 0, none⟩) rfl _).setCell (p := ⟨g0 + 1 + 1, 1, none⟩) rfl _
          have rf0 := (unhide HA).frozen 0
          have rf1 := (unhide HA).frozen 1
          have r0 := (unhide HA).cell (i := 0) rfl
          have r1 := (unhide HA).cell (i := 1) rfl
          have f0 := (((unhide HA).set 0 (.int .i64 H) (by simp)).set 1 (.slice (some ⟨go, 0, none⟩) R.length oc) (by simp)).cell (i := 0) rfl
          have f1 := (((unhide HA).set 0 (.int .i64 H) (by simp)).set 1 (.slice (some ⟨go, 0, none⟩) R.length oc) (by simp)).cell (i := 1) rfl
          have hWB : Below w.heap.size w wx := unhide HW
          go_wp2
          refine bodyPost_ret (v := .tuple #[.agg #[.int .i64 H, .slice (some ⟨go, 0, none⟩) R.length oc], .int .i64 ((n - 0 : Nat) : Int), .int .i64 0]) (by simp [results, Try.results27, go_sem, f0, f1]) rfl ?_
          have eD := unhide HD
          simp only [Prod.mk.injEq] at eD
          obtain ⟨e1, e2, e3⟩ := eD
          rw [Nat.sub_zero]
          subst e1 e2 e3
          exact ⟨_, _, _, rfl, fun V hV => (by have hr := (((unhide HS).kept (unhide HKS) (fun k hk e => by have := unhide HUK k hk; omega)).kept hV (fun k hk e => by have := unhide HUK k hk; have e : k < w.heap.size := e; omega)).rows (cap := oc) (by rw [List.length_set, unhide HML]; omega) (by unfold maxLen; omega); rw [List.length_set, unhide HML] at hr; exact hr), below_keptS hWB (unhide HKS) hWB.size (fun b e => by omega)⟩
      | succ m =>
        have htw : IntKind.i64.wrap ((t : Int) + 1) = (t : Int) + 1 := by rw [IntKind.wrap_i64]; omega
        obtain ⟨la, ela⟩ : ∃ z, z = t + 1 + (m + 1) := ⟨_, rfl⟩
        rw [← ela] at hrow hcap HRL
        have dq : decide ((t : Int) + 1 < (la : Int)) = true := by simp; omega
        have hla7 : la ≤ 14 := by omega
        have hla0 : 0 < la := by omega
        have HLA := hide ela
        clear ela
        have c1 := (unhide HC).cell (i := 1) rfl
        go_upto_region 26 with (fail)
        clear c1 hrow dq htw
        go_loopg [12, 13] R.length (fun gh bv kv wr => ∃ (k : Nat) (l : Int), k ≤ R.length ∧ gh = R.length - k ∧ kv = .int .i64 k ∧ bv = .int .i64 l ∧ Hid (l = lowY H M si k) ∧ Hid (SY U wr go A1 C1 M) ∧ Hid (OwnV wr g0 [.int .i64 H, .slice ao R.length cap]) ∧ Hid (OwnV wr (g0 + 1) [.int .i64 2, .int .i64 b, .int .i64 s]) ∧ Hid (OwnV wr (g0 + 1 + 1) [.int .i64 0, .slice none 0 0]) ∧ Hid (OwnV wr gb [.int .i64 H, .slice (some ⟨go, 0, none⟩) R.length oc]) ∧ Hid (Below w.heap.size w wr))
        case atStart => exact ⟨0, -1, Nat.zero_le _, rfl, rfl, rfl, rfl, HS, HB, HO, HA, HC, HW⟩
        case round =>
          clear HS HB HO HA HC HW
          obtain ⟨k, l, hk, rfl, rfl, rfl, HL, HS, HB, HO, HA, HC, HW⟩ := hrel
          have c1 := (unhide HC).cell (i := 1) rfl
          by_cases hkn : k < R.length
          · have hki : (k : Int) < (R.length : Int) := by omega
            have hkM : k < M.length := by have := unhide HML; omega
            have hrk := ((unhide HS).at hkM).1
            have hbd := lowY_bd H M si k
            rw [← unhide HL] at hbd
            have HNO : Hid (¬ ((k : Int) ≠ (si : Int) ∧ ((M.getD k []).length : Int) < H ∧ (l < 0 ∨ (M.getD k []).length < (M.getD l.toNat []).length)) → l = lowY H M si (k + 1)) := fun h => by
              have h1 := unhide HL
              rw [h1] at h ⊢
              exact (low_step_no h).symm
            have HYE : Hid ((k : Int) ≠ (si : Int) → ((M.getD k []).length : Int) < H → (l < 0 ∨ (M.getD k []).length < (M.getD l.toNat []).length) → (k : Int) = lowY H M si (k + 1)) := fun h1 h2 h => by
              have h3 := unhide HL
              rw [h3] at h
              exact (low_step_yes h1 h2 h).symm
            obtain ⟨rk, erk⟩ : ∃ n, (M.getD k []).length = n := ⟨_, rfl⟩
            have hrk6 : rk ≤ 6 := by have h1 := (unhide HT).ok.low k hkM; rw [erk] at h1; omega
            rw [erk] at hrk HNO HYE
            clear erk
            go_upto_region 28 with (fail)
            clear c1
            by_cases hko : (k : Int) = (si : Int)
            · have eko : ((k : Int) != (si : Int)) = false := by simpa using hko
              have HE := hide (unhide HNO (fun h => h.1 hko))
              have HKO := hide hko
              clear hko
              have gt0 := fun x' : Gr wr => gr_cell ((unhide HB).cell (i := 0) rfl) x'
              have gt1 := fun x' : Gr wr => gr_cell ((unhide HC).cell (i := 1) rfl) x'
              have gsome := gr_some wr
              refine wp_region_grown (by kernel_rfl) (by kernel_rfl) ?_
              repeat (go_big_quiet_step (fail))
              refine wpQuiet_nil ?_
              intro wz hw1
              obtain ⟨z', hz⟩ := hw1
              have hb : Below wr.heap.size wr wz := hz ▸ z'.ok
              clear hz z' gsome gt0 gt1
              replace HW := hide (Below.step (unhide HW) hb)
              replace HB := hide ((unhide HB).step hb)
              replace HO := hide ((unhide HO).step hb)
              replace HA := hide ((unhide HA).step hb)
              replace HC := hide ((unhide HC).step hb)
              replace HS := hide ((unhide HS).below hb)
              clear hb
              go_wp2
              go_roundg (R.length - (k + 1))
              case measure => omega
              case rel => exact ⟨k + 1, l, by omega, rfl, by go_num, rfl, HE, HS, HB, HO, HA, HC, HW⟩
            · have eko : ((k : Int) != (si : Int)) = true := by simpa using hko
              have HKO := hide hko
              clear hko
              by_cases hlt : (rk : Int) < H
              · have elt : decide ((rk : Int) < H) = true := by simpa using hlt
                have HLT := hide hlt
                clear hlt
                by_cases hl0 : l < 0
                · have el0 : decide (l < 0) = true := by simpa using hl0
                  have HE := hide (unhide HYE (unhide HKO) (unhide HLT) (Or.inl hl0))
                  have gt0 := fun x' : Gr wr => gr_cell ((unhide HB).cell (i := 0) rfl) x'
                  have gt1 := fun x' : Gr wr => gr_cell ((unhide HC).cell (i := 1) rfl) x'
                  have gt2 := fun x' : Gr wr => gr_cell (hrk) x'
                  have gsome := gr_some wr
                  refine wp_region_grown (by kernel_rfl) (by kernel_rfl) ?_
                  repeat (go_big_quiet_step (fail))
                  refine wpQuiet_nil ?_
                  intro wz hw1
                  obtain ⟨z', hz⟩ := hw1
                  have hb : Below wr.heap.size wr wz := hz ▸ z'.ok
                  clear hz z' gsome gt0 gt1 gt2
                  replace HW := hide (Below.step (unhide HW) hb)
                  replace HB := hide ((unhide HB).step hb)
                  replace HO := hide ((unhide HO).step hb)
                  replace HA := hide ((unhide HA).step hb)
                  replace HC := hide ((unhide HC).step hb)
                  replace HS := hide ((unhide HS).below hb)
                  clear hb
                  go_wp2
                  go_roundg (R.length - (k + 1))
                  case measure => omega
                  case rel => exact ⟨k + 1, k, by omega, rfl, by go_num, rfl, HE, HS, HB, HO, HA, HC, HW⟩
                · have el0 : decide (l < 0) = false := by simpa using hl0
                  obtain ⟨j, ej⟩ : ∃ j : Nat, l = (j : Int) := ⟨l.toNat, by omega⟩
                  subst ej
                  have hjl : j < M.length := by have := unhide HML; omega
                  have hji : (j : Int) < (R.length : Int) := by omega
                  have hrj := ((unhide HS).at hjl).1
                  rw [Int.toNat_natCast] at HNO HYE
                  obtain ⟨rj, erj⟩ : ∃ n, (M.getD j []).length = n := ⟨_, rfl⟩
                  rw [erj] at hrj HNO HYE
                  clear erj hbd
                  by_cases hrr : rk < rj
                  · have err : decide ((rk : Int) < (rj : Int)) = true := by simpa using hrr
                    have HE := hide (unhide HYE (unhide HKO) (unhide HLT) (Or.inr hrr))
                    have gt0 := fun x' : Gr wr => gr_cell ((unhide HB).cell (i := 0) rfl) x'
                    have gt1 := fun x' : Gr wr => gr_cell ((unhide HC).cell (i := 1) rfl) x'
                    have gt2 := fun x' : Gr wr => gr_cell (hrk) x'
                    have gt3 := fun x' : Gr wr => gr_cell (hrj) x'
                    have gsome := gr_some wr
                    refine wp_region_grown (by kernel_rfl) (by kernel_rfl) ?_
                    repeat (go_big_quiet_step (fail))
                    refine wpQuiet_nil ?_
                    intro wz hw1
                    obtain ⟨z', hz⟩ := hw1
                    have hb : Below wr.heap.size wr wz := hz ▸ z'.ok
                    clear hz z' gsome gt0 gt1 gt2 gt3
                    replace HW := hide (Below.step (unhide HW) hb)
                    replace HB := hide ((unhide HB).step hb)
                    replace HO := hide ((unhide HO).step hb)
                    replace HA := hide ((unhide HA).step hb)
                    replace HC := hide ((unhide HC).step hb)
                    replace HS := hide ((unhide HS).below hb)
                    clear hb
                    go_wp2
                    go_roundg (R.length - (k + 1))
                    case measure => omega
                    case rel => exact ⟨k + 1, k, by omega, rfl, by go_num, rfl, HE, HS, HB, HO, HA, HC, HW⟩
                  · have err : decide ((rk : Int) < (rj : Int)) = false := by simpa using hrr
                    have HE := hide (unhide HNO (fun h => by have h1 := h.2.2; omega))
                    have gt0 := fun x' : Gr wr => gr_cell ((unhide HB).cell (i := 0) rfl) x'
                    have gt1 := fun x' : Gr wr => gr_cell ((unhide HC).cell (i := 1) rfl) x'
                    have gt2 := fun x' : Gr wr => gr_cell (hrk) x'
                    have gt3 := fun x' : Gr wr => gr_cell (hrj) x'
                    have gsome := gr_some wr
                    refine wp_region_grown (by kernel_rfl) (by kernel_rfl) ?_
                    repeat (go_big_quiet_step (fail))
                    refine wpQuiet_nil ?_
                    intro wz hw1
                    obtain ⟨z', hz⟩ := hw1
                    have hb : Below wr.heap.size wr wz := hz ▸ z'.ok
                    clear hz z' gsome gt0 gt1 gt2 gt3
                    replace HW := hide (Below.step (unhide HW) hb)
                    replace HB := hide ((unhide HB).step hb)
                    replace HO := hide ((unhide HO).step hb)
                    replace HA := hide ((unhide HA).step hb)
                    replace HC := hide ((unhide HC).step hb)
                    replace HS := hide ((unhide HS).below hb)
                    clear hb
                    go_wp2
                    go_roundg (R.length - (k + 1))
                    case measure => omega
                    case rel => exact ⟨k + 1, (j : Int), by omega, rfl, by go_num, rfl, HE, HS, HB, HO, HA, HC, HW⟩
              · have elt : decide ((rk : Int) < H) = false := by simpa using hlt
                have HE := hide (unhide HNO (fun h => hlt h.2.1))
                clear hlt
                have gt0 := fun x' : Gr wr => gr_cell ((unhide HB).cell (i := 0) rfl) x'
                have gt1 := fun x' : Gr wr => gr_cell ((unhide HC).cell (i := 1) rfl) x'
                have gt2 := fun x' : Gr wr => gr_cell (hrk) x'
                have gsome := gr_some wr
                refine wp_region_grown (by kernel_rfl) (by kernel_rfl) ?_
                repeat (go_big_quiet_step (fail))
                refine wpQuiet_nil ?_
                intro wz hw1
                obtain ⟨z', hz⟩ := hw1
                have hb : Below wr.heap.size wr wz := hz ▸ z'.ok
                clear hz z' gsome gt0 gt1 gt2
                replace HW := hide (Below.step (unhide HW) hb)
                replace HB := hide ((unhide HB).step hb)
                replace HO := hide ((unhide HO).step hb)
                replace HA := hide ((unhide HA).step hb)
                replace HC := hide ((unhide HC).step hb)
                replace HS := hide ((unhide HS).below hb)
                clear hb
                go_wp2
                go_roundg (R.length - (k + 1))
                case measure => omega
                case rel => exact ⟨k + 1, l, by omega, rfl, by go_num, rfl, HE, HS, HB, HO, HA, HC, HW⟩
          · have hkk : k = R.length := by omega
            subst hkk
            have HZ : Hid (l = lowY H M si M.length) := by have h1 := unhide HL; rw [← unhide HML] at h1; exact h1
            clear HL
            have HNN := hide (unhide HT).none
            have HNX := hide ((unhide HT).next (by omega))
            have HLO := hide (low_lt (H := H) (R := M) (s := si))
            rw [← unhide HZ] at HNN HNX HLO
            by_cases hz : l < 0
            · have HF := hide (unhide HNN hz)
              have HD := hide (unhide HDF' (unhide HF))
              clear HNN HNX HLO
              have b0 := (unhide HB).cell (i := 0) rfl
              have b1 := (unhide HB).cell (i := 1) rfl
              go_wp2_with fail
              refine (unhide HCPY _ (unhide HW)).mono ?_
              intro e w9 hcp
              obtain ⟨g9, A9, C9, c9, rfl, ho91, ho92, hS9, hb⟩ := cpA_sy hcp hn1
              have hsz := (unhide HA).lt
              replace HW := hide (Below.step (unhide HW) hb)
              replace HA := hide ((unhide HA).step hb)
              have HS9 := hide hS9
              clear hcp b0 b1 hS9 hb c1
              unfold yardV
              unfold maxLen at ho92
              have HKS : Hid (Kept (fun b => b = g0 + 1 + 1) w9 ((w9.setCell ⟨g0 + 1 + 1, 0, none⟩ (.int .i64 H)).setCell ⟨g0 + 1 + 1, 1, none⟩ (.slice (some ⟨g9, 0, none⟩) R.length c9))) := ((Kept.refl (fun b => b = g0 + 1 + 1) _).setCell (p := ⟨g0 + 1 + 1, 0, none⟩) rfl _).setCell (p := ⟨g0 + 1 + 1, 1, none⟩) rfl _
              have rf0 := (unhide HA).frozen 0
              have rf1 := (unhide HA).frozen 1
              have r0 := (unhide HA).cell (i := 0) rfl
              have r1 := (unhide HA).cell (i := 1) rfl
              have f0 := (((unhide HA).set 0 (.int .i64 H) (by simp)).set 1 (.slice (some ⟨g9, 0, none⟩) R.length c9) (by simp)).cell (i := 0) rfl
              have f1 := (((unhide HA).set 0 (.int .i64 H) (by simp)).set 1 (.slice (some ⟨g9, 0, none⟩) R.length c9) (by simp)).cell (i := 1) rfl
              have hWB : Below w.heap.size w w9 := unhide HW
              go_wp2
              refine bodyPost_ret (v := .tuple #[.agg #[.int .i64 H, .slice (some ⟨g9, 0, none⟩) R.length c9], .int .i64 0, .int .i64 4]) (by simp [results, Try.results27, go_sem, f0, f1]) rfl ?_
              have eD := unhide HD
              simp only [Prod.mk.injEq] at eD
              obtain ⟨e1, e2, e3⟩ := eD
              subst e1 e2 e3
              exact ⟨_, _, _, rfl, fun V hV => ((((unhide HS9).kept (unhide HKS) (fun k hk e => by omega)).kept hV (fun k hk e => by have e : k < w.heap.size := e; omega)).rows ho91 (by unfold maxLen; omega)), below_keptS hWB (unhide HKS) hWB.size (fun b e => by omega)⟩
            · obtain ⟨l1, l2, l3, l4⟩ := unhide HLO (by omega)
              have HTN := hide (unhide HNX (by omega))
              obtain ⟨j, ej⟩ : ∃ j, j = l.toNat := ⟨_, rfl⟩
              rw [← ej] at l1 l2 l3 l4 HTN
              have hlj := l4
              subst hlj
              clear ej l4
              have HQ := hide (l18Shift_any U H go oc A1 C1 M si j wr (unhide HS) (fun k hk => unhide HUM k (by have := (unhide HC).lt; omega)) (by rw [unhide HML]; exact ho1) (by unfold maxLen; omega) hsM l1 l2 (by rw [unhide HRL]; omega) (by rw [unhide HRL]; omega) (by omega))
              rw [unhide HML] at HQ
              unfold yardV at HQ
              clear HNN HNX HLO HZ c1
              have c0 := (unhide HC).cell (i := 0) rfl
              have c1 := (unhide HC).cell (i := 1) rfl
              have o0 := (unhide HO).cell (i := 0) rfl
              have o1 := (unhide HO).cell (i := 1) rfl
              have o2 := (unhide HO).cell (i := 2) rfl
              go_wp2_with fail
              refine (unhide HQ).mono ?_
              rintro e w8 ⟨rfl, A1, C1, hS, hk⟩
              replace HB := hide ((unhide HB).kept hk (fun e => by have := unhide HUK _ e; omega))
              replace HO := hide ((unhide HO).kept hk (fun e => by have := unhide HUK _ e; omega))
              replace HA := hide ((unhide HA).kept hk (fun e => by have := unhide HUK _ e; omega))
              replace HC := hide ((unhide HC).kept hk (fun e => (unhide HUK _ e).2 rfl))
              have hWB := unhide HW
              replace HW := hide (below_keptS hWB hk hWB.size (fun k e => by have := unhide HUK _ e; omega))
              clear hWB
              clear HS
              have HS := hide hS
              clear hS hk HQ c0 c1 o0 o1 o2
              go_wp2
              go_roundg m
              case measure => omega
              case rel => exact ⟨_, _, _, by omega, by go_num, HTN, HS, HB, HO, HA, HC, HW⟩

end Go.Proofs.Ytdiifkeebgdfkaa

namespace Go.Proofs.Ytdiifkeebgdfkaa
open Go.RowKit

set_option maxRecDepth 100000 in
set_option maxHeartbeats 16000000 in
theorem specDoYard_bad (H : Int) (ao : Option Addr) (cap : Nat) (R : List (List Int)) (k b s : Int) (w : World) (h : RowsIn w (.slice ao R.length cap) R) (hn : R.length ≤ 1048576) (hl : ∀ s, s < R.length → (R.getD s []).length ≤ 1048576) (hx : ¬ (YOk H R ∧ opB R.length k b s = true)) :
    Calls Try.prog 27 #[yardV H (.slice ao R.length cap), vYardOp k b s] w fun e w' => SDoA w H (doY H R k b s) e w' := by
  have hD : doY H R k b s = (R, 0, 1) := by rw [doY, if_pos hx]
  rw [hD]
  clear hD
  obtain ⟨-, -, -, hc1, hc2⟩ := rows_cap h
  have HCPY := hide fun W (hb : Below w.heap.size w W) => l18Copy_any H (.slice ao R.length cap) R W (h.below hb) hn hl
  have HYK := hide fun W (hb : Below w.heap.size w W) => specYardOk_any H (.slice ao R.length cap) R W (h.below hb)
  have HOP := hide fun W => l18Op_any H ao R.length cap k b s W hn
  have HX : Hid (yardB H R = true → opB R.length k b s = true → False) := fun h1 h2 => hx ⟨of_decide_eq_true h1, h2⟩
  clear h hl hx
  generalize yardB H R = r at HYK HX
  generalize opB R.length k b s = q at HOP HX
  unfold vYardOp yardV at HOP ⊢
  unfold yardV at HYK HCPY
  go_enter Try.func27, Try.ntmps27
  go_upto_region 1 with (fail)
  obtain ⟨g0, eg0⟩ : ∃ z, z = w.heap.size := ⟨_, rfl⟩
  obtain ⟨W, eW⟩ : ∃ z, z = ((w.alloc (.cells #[.int .i64 H, .slice ao R.length cap] 26)).alloc (.cells #[.int .i64 k, .int .i64 b, .int .i64 s] 34)).alloc (.cells #[.int .i64 0, .slice none 0 0] 26) := ⟨_, rfl⟩
  have HW : Hid (Below w.heap.size w W) := by rw [eW]; exact Below.step (Below.step (Below.alloc1 _ _) (Below.alloc1 _ _)) (Below.alloc1 _ _)
  have HB : Hid (OwnV W g0 [.int .i64 H, .slice ao R.length cap]) := by rw [eW, eg0]; exact ((ownV_alloc _ _ _).step (Below.alloc1 _ _)).step (Below.alloc1 _ _)
  have HO : Hid (OwnV W (g0 + 1) [.int .i64 k, .int .i64 b, .int .i64 s]) := by rw [eW, eg0]; exact (own_newS _ _ _ _ (by simp)).step (Below.alloc1 _ _)
  have HA : Hid (OwnV W (g0 + 1 + 1) [.int .i64 0, .slice none 0 0]) := by rw [eW, eg0]; exact own_newS _ _ _ _ (by simp)
  rw [← eW, ← eg0]
  have hg0 : w.heap.size ≤ g0 := by omega
  clear eW eg0
  have hgU := (unhide HA).lt
  have b0 := (unhide HB).cell (i := 0) rfl
  have b1 := (unhide HB).cell (i := 1) rfl
  go_wp2_with fail
  refine (unhide HCPY _ (unhide HW)).mono ?_
  intro e w1 hcp
  obtain ⟨oa, on, oc, rfl, hb, hcp⟩ := hcp
  have HCP : Hid (∀ V, Kept (fun b => b = g0 + 1 + 1 ∨ b < w.heap.size) w1 V → RowsIn V (.slice oa on oc) R) := fun V hk => by
    rcases hcp with ⟨rfl, rfl, rfl, rfl⟩ | ⟨g, A, C, rfl, rfl, h1, h2, hs⟩
    · exact ⟨none, 0, rfl, Nat.le_refl _, Nat.zero_le _, fun r hr => by simp at hr⟩
    · exact (hs.kept hk (fun k hk e => by rcases e with e | e <;> omega)).rows h1 h2
  replace HW := hide (Below.step (unhide HW) hb)
  replace HB := hide ((unhide HB).step hb)
  replace HO := hide ((unhide HO).step hb)
  replace HA := hide ((unhide HA).step hb)
  clear hcp b0 b1 hb
  unfold yardV
  obtain ⟨gb, egb⟩ : ∃ z, z = w1.heap.size := ⟨_, rfl⟩
  have hgb : g0 + 1 + 1 < gb := by rw [egb]; exact (unhide HA).lt
  go_upto_region 2 with (fail)
  obtain ⟨W2, eW⟩ : ∃ z, z = w1.alloc (.cells #[.int .i64 H, .slice oa on oc] 26) := ⟨_, rfl⟩
  have hb : Below w1.heap.size w1 W2 := by rw [eW]; exact Below.alloc1 _ _
  have HC : Hid (OwnV W2 gb [.int .i64 H, .slice oa on oc]) := by rw [eW, egb]; exact ownV_alloc _ _ _
  have HKB : Hid (Kept (fun b => b = g0 + 1 + 1) w1 W2) := kept_of_below hb
  rw [← eW, ← egb]
  replace HW := hide (Below.step (unhide HW) hb)
  replace HB := hide ((unhide HB).step hb)
  replace HO := hide ((unhide HO).step hb)
  replace HA := hide ((unhide HA).step hb)
  clear hb eW egb
  cases r with
  | false =>
    have b0 := (unhide HB).cell (i := 0) rfl
    have b1 := (unhide HB).cell (i := 1) rfl
    have o0 := (unhide HO).cell (i := 0) rfl
    have o1 := (unhide HO).cell (i := 1) rfl
    have o2 := (unhide HO).cell (i := 2) rfl
    go_wp2_with fail
    refine (unhide HYK _ (unhide HW)).mono ?_
    rintro e w2 ⟨rfl, hb⟩
    replace HW := hide (Below.step (unhide HW) hb)
    replace HB := hide ((unhide HB).step hb)
    replace HO := hide ((unhide HO).step hb)
    replace HA := hide ((unhide HA).step hb)
    replace HC := hide ((unhide HC).step hb)
    replace HKB := hide ((unhide HKB).trans (kept_of_below hb))
    clear hb b0 b1 o0 o1 o2
    have c0 := (unhide HC).cell (i := 0) rfl
    have c1 := (unhide HC).cell (i := 1) rfl
    have HKS : Hid (Kept (fun b => b = g0 + 1 + 1) w2 ((w2.setCell ⟨g0 + 1 + 1, 0, none⟩ (.int .i64 H)).setCell ⟨g0 + 1 + 1, 1, none⟩ (.slice oa on oc))) := ((Kept.refl (fun b => b = g0 + 1 + 1) _).setCell (p := ⟨g0 + 1 + 1, 0, none⟩) rfl _).setCell (p := ⟨g0 + 1 + 1, 1, none⟩) rfl _
    have rf0 := (unhide HA).frozen 0
    have rf1 := (unhide HA).frozen 1
    have r0 := (unhide HA).cell (i := 0) rfl
    have r1 := (unhide HA).cell (i := 1) rfl
    have f0 := (((unhide HA).set 0 (.int .i64 H) (by simp)).set 1 (.slice oa on oc) (by simp)).cell (i := 0) rfl
    have f1 := (((unhide HA).set 0 (.int .i64 H) (by simp)).set 1 (.slice oa on oc) (by simp)).cell (i := 1) rfl
    have hWB : Below w.heap.size w w2 := unhide HW
    go_wp2
    refine bodyPost_ret (v := .tuple #[.agg #[.int .i64 H, .slice oa on oc], .int .i64 0, .int .i64 1]) (by simp [results, Try.results27, go_sem, f0, f1]) rfl ?_
    exact ⟨_, _, _, rfl, fun V hV => unhide HCP _ ((((unhide HKB).trans (unhide HKS)).mono (fun k _ e => Or.inl e)).trans (hV.mono (fun k _ e => Or.inr e))), below_keptS hWB (unhide HKS) hWB.size (fun b e => by omega)⟩
  | true =>
    cases q with
    | true => exact absurd (unhide HX (by first | rfl | trivial) (by first | rfl | trivial)) id
    | false =>
      have b0 := (unhide HB).cell (i := 0) rfl
      have b1 := (unhide HB).cell (i := 1) rfl
      have o0 := (unhide HO).cell (i := 0) rfl
      have o1 := (unhide HO).cell (i := 1) rfl
      have o2 := (unhide HO).cell (i := 2) rfl
      go_wp2_with fail
      refine (unhide HYK _ (unhide HW)).mono ?_
      rintro e w2 ⟨rfl, hb⟩
      replace HW := hide (Below.step (unhide HW) hb)
      replace HB := hide ((unhide HB).step hb)
      replace HO := hide ((unhide HO).step hb)
      replace HA := hide ((unhide HA).step hb)
      replace HC := hide ((unhide HC).step hb)
      replace HKB := hide ((unhide HKB).trans (kept_of_below hb))
      clear hb b0 b1 o0 o1 o2
      have b0 := (unhide HB).cell (i := 0) rfl
      have b1 := (unhide HB).cell (i := 1) rfl
      have o0 := (unhide HO).cell (i := 0) rfl
      have o1 := (unhide HO).cell (i := 1) rfl
      have o2 := (unhide HO).cell (i := 2) rfl
      go_wp2_with fail
      refine (unhide HOP _).mono ?_
      rintro e w3 ⟨rfl, hb⟩
      replace HW := hide (Below.step (unhide HW) hb)
      replace HB := hide ((unhide HB).step hb)
      replace HO := hide ((unhide HO).step hb)
      replace HA := hide ((unhide HA).step hb)
      replace HC := hide ((unhide HC).step hb)
      replace HKB := hide ((unhide HKB).trans (kept_of_below hb))
      clear hb b0 b1 o0 o1 o2
      have c0 := (unhide HC).cell (i := 0) rfl
      have c1 := (unhide HC).cell (i := 1) rfl
      have HKS : Hid (Kept (fun b => b = g0 + 1 + 1) w3 ((w3.setCell ⟨g0 + 1 + 1, 0, none⟩ (.int .i64 H)).setCell ⟨g0 + 1 + 1, 1, none⟩ (.slice oa on oc))) := ((Kept.refl (fun b => b = g0 + 1 + 1) _).setCell (p := ⟨g0 + 1 + 1, 0, none⟩) rfl _).setCell (p := ⟨g0 + 1 + 1, 1, none⟩) rfl _
      have rf0 := (unhide HA).frozen 0
      have rf1 := (unhide HA).frozen 1
      have r0 := (unhide HA).cell (i := 0) rfl
      have r1 := (unhide HA).cell (i := 1) rfl
      have f0 := (((unhide HA).set 0 (.int .i64 H) (by simp)).set 1 (.slice oa on oc) (by simp)).cell (i := 0) rfl
      have f1 := (((unhide HA).set 0 (.int .i64 H) (by simp)).set 1 (.slice oa on oc) (by simp)).cell (i := 1) rfl
      have hWB : Below w.heap.size w w3 := unhide HW
      go_wp2
      refine bodyPost_ret (v := .tuple #[.agg #[.int .i64 H, .slice oa on oc], .int .i64 0, .int .i64 1]) (by simp [results, Try.results27, go_sem, f0, f1]) rfl ?_
      exact ⟨_, _, _, rfl, fun V hV => unhide HCP _ ((((unhide HKB).trans (unhide HKS)).mono (fun k _ e => Or.inl e)).trans (hV.mono (fun k _ e => Or.inr e))), below_keptS hWB (unhide HKS) hWB.size (fun b e => by omega)⟩

theorem specDoYard_any (H : Int) (v : Value) (R : List (List Int)) (k b s : Int) (w : World) (h : RowsIn w v R) (hn : R.length ≤ 1048576) (hl : ∀ s, s < R.length → (R.getD s []).length ≤ 1048576) :
    Calls Try.prog 27 #[yardV H v, vYardOp k b s] w fun e w' => SDoA w H (doY H R k b s) e w' := by
  have h' := h
  obtain ⟨ao, cap, rfl, _, _⟩ := rows_cap h'
  by_cases hx : YOk H R ∧ opB R.length k b s = true
  · obtain ⟨hy, ho⟩ := hx
    by_cases h1 : k = 1
    · subst h1; exact specDoYard_1 H ao cap R b s w h hy ho
    · by_cases h3 : k = 3
      · subst h3; exact specDoYard_3 H ao cap R b s w h hy ho
      · have h2 := opB_kind ho h1 h3
        subst h2; exact specDoYard_2 H ao cap R b s w h hy ho
  · exact specDoYard_bad H ao cap R k b s w h hn hl hx

end Go.Proofs.Ytdiifkeebgdfkaa
