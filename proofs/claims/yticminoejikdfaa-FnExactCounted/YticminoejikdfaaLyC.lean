/- The program's Counted. Written by wip/mkly.py. -/
import Derived.Test.YticminoejikdfaaLyE
namespace Go.Proofs.Yticminoejikdfaa
open Go.RowKit

theorem ret_cb {V : I3 × Bool} {q : I3} {b : Bool} (h : V = (q, b)) : (Ending.returned (.tuple #[v3 q, .bool b])) = .returned (.tuple #[v3 V.1, .bool V.2]) := by rw [h]
theorem below_set3 {B g : Nat} {w W : World} {x y z : Value} (h : Below B w W) (hg : B ≤ g) : Below B w (((W.setCell ⟨g, 0, none⟩ x).setCell ⟨g, 1, none⟩ y).setCell ⟨g, 2, none⟩ z) := ((h.setCell (p := ⟨g, 0, none⟩) hg x).setCell (p := ⟨g, 1, none⟩) hg y).setCell (p := ⟨g, 2, none⟩) hg z
theorem own_set3 {w : World} {g : Nat} {a b c : Value} (h : OwnV w g [a, b, c]) (x y z : Value) : OwnV (((w.setCell ⟨g, 0, none⟩ x).setCell ⟨g, 1, none⟩ y).setCell ⟨g, 2, none⟩ z) g [x, y, z] := ((h.set 0 x (by simp)).set 1 y (by simp)).set 2 z (by simp)
theorem stret_zero {L : List I2} (h : Sp L) {a b e : Int} (hab : b ≤ e) (ha : 0 ≤ a) : stret e b (a, 0, 0, -1) L = (a - (cnt3 a b e L).1, cnt3 a b e L) := by
  rw [stret_cnt h hab ⟨ha, Int.le_refl _, fun _ => rfl, fun _ => rfl, fun h => absurd h (by show ¬ (0 : Int) < 0; omega)⟩]
  unfold mrg
  simp
theorem r2_kept {w w6 W : World} {v : Value} {L : List I2} {gt : Nat} (h : R2 w v L) (hW : Below w.heap.size w w6) (hg : w.heap.size ≤ gt) (hk : Kept (fun b => b = gt) w6 W) : R2 W v L :=
  h.below (hW.trans (hk.below hW.size fun k hk => by have hk : k = gt := hk; omega))

set_option maxRecDepth 10000 in
set_option maxHeartbeats 8000000 in
theorem implCounted_any (n a d s b e : Int) (v : Value) (L : List I2) (w : World) (h : R2 w v L) :
    Calls Try.prog 16 #[vCh n a d s, .int .i64 b, .int .i64 e, v] w fun r w' => r = .returned (.tuple #[v3 (cntV n a d s b e L).1, .bool (cntV n a d s b e L).2]) ∧ Below w.heap.size w w' := by
  have HVL := hide h
  obtain ⟨ao, cap, rfl, hl, hm, hc⟩ := h
  unfold maxLen at hm
  have HC := hide hc
  clear hc
  have HO := hide ((ownV_alloc w #[.int .i64 n, .int .i64 a, .int .i64 d, .int .i64 s] 25).step (Below.alloc1 _ (.cells #[.int .i64 0, .int .i64 0, .int .i64 0] 34)))
  have HR := hide (ownV_alloc (w.alloc (.cells #[.int .i64 n, .int .i64 a, .int .i64 d, .int .i64 s] 25)) #[.int .i64 0, .int .i64 0, .int .i64 0] 34)
  rw [World.size_alloc] at HR
  have HW := hide (below_alloc (Below.alloc1 w (.cells #[.int .i64 n, .int .i64 a, .int .i64 d, .int .i64 s] 25)) (.cells #[.int .i64 0, .int .i64 0, .int .i64 0] 34))
  have hrs : w.heap.size ≤ w.heap.size + 1 := Nat.le_add_right _ _
  have HQC := hide fun V => implCharterOk_any n a d s V
  have HQMb := hide fun V => isMinute_any b V
  have HQMe := hide fun V => isMinute_any e V
  have HQSL := hide fun V (hV : Below w.heap.size w V) => implSpellsOk_any _ L V ((unhide HVL).below hV)
  unfold vCh at HQC ⊢
  cases hc0 : chB n a d s with
  | false =>
    rw [hc0] at HQC
    have HF := hide (cntV_not (n := n) (a := a) (d := d) (s := s) (b := b) (e := e) (L := L) fun h => chB_not hc0 h.1)
    go_enter Try.func16, Try.ntmps16
    go_wp2_with fail
    refine (unhide HQC _).mono ?_
    rintro e w1 ⟨rfl, hb⟩
    replace HO := hide ((unhide HO).step hb)
    replace HR := hide ((unhide HR).step hb)
    replace HW := hide (Below.step (unhide HW) hb)
    clear hb
    clear HQC
    have r0 := (unhide HR).cell (i := 0) rfl
    have rf0 := (unhide HR).frozen 0
    have r1 := (unhide HR).cell (i := 1) rfl
    have rf1 := (unhide HR).frozen 1
    have r2 := (unhide HR).cell (i := 2) rfl
    have rf2 := (unhide HR).frozen 2
    go_wp2
    have hr3 := own_set3 (unhide HR) (.int .i64 0) (.int .i64 0) (.int .i64 0)
    have k0 := hr3.cell (i := 0) rfl
    have k1 := hr3.cell (i := 1) rfl
    have k2 := hr3.cell (i := 2) rfl
    refine bodyPost_ret (v := .tuple #[.agg #[.int .i64 0, .int .i64 0, .int .i64 0], .bool false]) (by simp [results, Try.results16, go_sem, k0, k1, k2]) rfl ⟨ret_cb (unhide HF), below_set3 (unhide HW) hrs⟩
  | true =>
  rw [hc0] at HQC
  cases hc1 : inB b 0 100000000 with
  | false =>
    rw [hc1] at HQMb
    have HF := hide (cntV_not (n := n) (a := a) (d := d) (s := s) (b := b) (e := e) (L := L) fun h => by have := h.2.1; rw [inB_mk (by omega) (by omega)] at hc1; cases hc1)
    go_enter Try.func16, Try.ntmps16
    go_wp2_with fail
    refine (unhide HQC _).mono ?_
    rintro e w1 ⟨rfl, hb⟩
    replace HO := hide ((unhide HO).step hb)
    replace HR := hide ((unhide HR).step hb)
    replace HW := hide (Below.step (unhide HW) hb)
    clear hb
    clear HQC
    go_wp2_with fail
    refine (unhide HQMb _).mono ?_
    rintro e w9 ⟨rfl, h9⟩
    have h8 := h9.symm
    subst h8
    clear h9
    clear HQMb
    have r0 := (unhide HR).cell (i := 0) rfl
    have rf0 := (unhide HR).frozen 0
    have r1 := (unhide HR).cell (i := 1) rfl
    have rf1 := (unhide HR).frozen 1
    have r2 := (unhide HR).cell (i := 2) rfl
    have rf2 := (unhide HR).frozen 2
    go_wp2
    have hr3 := own_set3 (unhide HR) (.int .i64 0) (.int .i64 0) (.int .i64 0)
    have k0 := hr3.cell (i := 0) rfl
    have k1 := hr3.cell (i := 1) rfl
    have k2 := hr3.cell (i := 2) rfl
    refine bodyPost_ret (v := .tuple #[.agg #[.int .i64 0, .int .i64 0, .int .i64 0], .bool false]) (by simp [results, Try.results16, go_sem, k0, k1, k2]) rfl ⟨ret_cb (unhide HF), below_set3 (unhide HW) hrs⟩
  | true =>
  rw [hc1] at HQMb
  cases hc2 : inB e 0 100000000 with
  | false =>
    rw [hc2] at HQMe
    have HF := hide (cntV_not (n := n) (a := a) (d := d) (s := s) (b := b) (e := e) (L := L) fun h => by have := h.2.1; rw [inB_mk (by omega) (by omega)] at hc2; cases hc2)
    go_enter Try.func16, Try.ntmps16
    go_wp2_with fail
    refine (unhide HQC _).mono ?_
    rintro e w1 ⟨rfl, hb⟩
    replace HO := hide ((unhide HO).step hb)
    replace HR := hide ((unhide HR).step hb)
    replace HW := hide (Below.step (unhide HW) hb)
    clear hb
    clear HQC
    go_wp2_with fail
    refine (unhide HQMb _).mono ?_
    rintro e w9 ⟨rfl, h9⟩
    have h8 := h9.symm
    subst h8
    clear h9
    clear HQMb
    go_wp2_with fail
    refine (unhide HQMe _).mono ?_
    rintro e w9 ⟨rfl, h9⟩
    have h8 := h9.symm
    subst h8
    clear h9
    clear HQMe
    have r0 := (unhide HR).cell (i := 0) rfl
    have rf0 := (unhide HR).frozen 0
    have r1 := (unhide HR).cell (i := 1) rfl
    have rf1 := (unhide HR).frozen 1
    have r2 := (unhide HR).cell (i := 2) rfl
    have rf2 := (unhide HR).frozen 2
    go_wp2
    have hr3 := own_set3 (unhide HR) (.int .i64 0) (.int .i64 0) (.int .i64 0)
    have k0 := hr3.cell (i := 0) rfl
    have k1 := hr3.cell (i := 1) rfl
    have k2 := hr3.cell (i := 2) rfl
    refine bodyPost_ret (v := .tuple #[.agg #[.int .i64 0, .int .i64 0, .int .i64 0], .bool false]) (by simp [results, Try.results16, go_sem, k0, k1, k2]) rfl ⟨ret_cb (unhide HF), below_set3 (unhide HW) hrs⟩
  | true =>
  rw [hc2] at HQMe
  cases hc3 : decide (e < b) with
  | true =>
    have HF := hide (cntV_not (n := n) (a := a) (d := d) (s := s) (b := b) (e := e) (L := L) fun h => by have h1 := h.2.1; simp at hc3; omega)
    go_enter Try.func16, Try.ntmps16
    go_wp2_with fail
    refine (unhide HQC _).mono ?_
    rintro e w1 ⟨rfl, hb⟩
    replace HO := hide ((unhide HO).step hb)
    replace HR := hide ((unhide HR).step hb)
    replace HW := hide (Below.step (unhide HW) hb)
    clear hb
    clear HQC
    go_wp2_with fail
    refine (unhide HQMb _).mono ?_
    rintro e w9 ⟨rfl, h9⟩
    have h8 := h9.symm
    subst h8
    clear h9
    clear HQMb
    go_wp2_with fail
    refine (unhide HQMe _).mono ?_
    rintro e w9 ⟨rfl, h9⟩
    have h8 := h9.symm
    subst h8
    clear h9
    clear HQMe
    have r0 := (unhide HR).cell (i := 0) rfl
    have rf0 := (unhide HR).frozen 0
    have r1 := (unhide HR).cell (i := 1) rfl
    have rf1 := (unhide HR).frozen 1
    have r2 := (unhide HR).cell (i := 2) rfl
    have rf2 := (unhide HR).frozen 2
    go_wp2
    have hr3 := own_set3 (unhide HR) (.int .i64 0) (.int .i64 0) (.int .i64 0)
    have k0 := hr3.cell (i := 0) rfl
    have k1 := hr3.cell (i := 1) rfl
    have k2 := hr3.cell (i := 2) rfl
    refine bodyPost_ret (v := .tuple #[.agg #[.int .i64 0, .int .i64 0, .int .i64 0], .bool false]) (by simp [results, Try.results16, go_sem, k0, k1, k2]) rfl ⟨ret_cb (unhide HF), below_set3 (unhide HW) hrs⟩
  | false =>
  cases hc4 : spB L with
  | false =>
    rw [hc4] at HQSL
    have HF := hide (cntV_not (n := n) (a := a) (d := d) (s := s) (b := b) (e := e) (L := L) fun h => spB_not hc4 (h.2.2))
    go_enter Try.func16, Try.ntmps16
    go_wp2_with fail
    refine (unhide HQC _).mono ?_
    rintro e w1 ⟨rfl, hb⟩
    replace HO := hide ((unhide HO).step hb)
    replace HR := hide ((unhide HR).step hb)
    replace HW := hide (Below.step (unhide HW) hb)
    clear hb
    clear HQC
    go_wp2_with fail
    refine (unhide HQMb _).mono ?_
    rintro e w9 ⟨rfl, h9⟩
    have h8 := h9.symm
    subst h8
    clear h9
    clear HQMb
    go_wp2_with fail
    refine (unhide HQMe _).mono ?_
    rintro e w9 ⟨rfl, h9⟩
    have h8 := h9.symm
    subst h8
    clear h9
    clear HQMe
    go_wp2_with fail
    refine (unhide HQSL _ (unhide HW)).mono ?_
    rintro e w5 ⟨rfl, hb⟩
    replace HO := hide ((unhide HO).step hb)
    replace HR := hide ((unhide HR).step hb)
    replace HW := hide (Below.step (unhide HW) hb)
    clear hb
    clear HQSL
    have r0 := (unhide HR).cell (i := 0) rfl
    have rf0 := (unhide HR).frozen 0
    have r1 := (unhide HR).cell (i := 1) rfl
    have rf1 := (unhide HR).frozen 1
    have r2 := (unhide HR).cell (i := 2) rfl
    have rf2 := (unhide HR).frozen 2
    go_wp2
    have hr3 := own_set3 (unhide HR) (.int .i64 0) (.int .i64 0) (.int .i64 0)
    have k0 := hr3.cell (i := 0) rfl
    have k1 := hr3.cell (i := 1) rfl
    have k2 := hr3.cell (i := 2) rfl
    refine bodyPost_ret (v := .tuple #[.agg #[.int .i64 0, .int .i64 0, .int .i64 0], .bool false]) (by simp [results, Try.results16, go_sem, k0, k1, k2]) rfl ⟨ret_cb (unhide HF), below_set3 (unhide HW) hrs⟩
  | true =>
  rw [hc4] at HQSL
  go_enter Try.func16, Try.ntmps16
  go_wp2_with fail
  refine (unhide HQC _).mono ?_
  rintro e w1 ⟨rfl, hb⟩
  replace HO := hide ((unhide HO).step hb)
  replace HR := hide ((unhide HR).step hb)
  replace HW := hide (Below.step (unhide HW) hb)
  clear hb
  clear HQC
  go_wp2_with fail
  refine (unhide HQMb _).mono ?_
  rintro e w9 ⟨rfl, h9⟩
  have h8 := h9.symm
  subst h8
  clear h9
  clear HQMb
  go_wp2_with fail
  refine (unhide HQMe _).mono ?_
  rintro e w9 ⟨rfl, h9⟩
  have h8 := h9.symm
  subst h8
  clear h9
  clear HQMe
  go_wp2_with fail
  refine (unhide HQSL _ (unhide HW)).mono ?_
  rintro e w5 ⟨rfl, hb⟩
  replace HO := hide ((unhide HO).step hb)
  replace HR := hide ((unhide HR).step hb)
  replace HW := hide (Below.step (unhide HW) hb)
  clear hb
  clear HQSL
  have r0 := (unhide HR).cell (i := 0) rfl
  have rf0 := (unhide HR).frozen 0
  have r1 := (unhide HR).cell (i := 1) rfl
  have rf1 := (unhide HR).frozen 1
  have r2 := (unhide HR).cell (i := 2) rfl
  have rf2 := (unhide HR).frozen 2
  have hch := chB_iff.1 hc0
  obtain ⟨-, ⟨a2, a3⟩, -⟩ := hch
  have hb0 := (inB_true hc1).1
  have he1 := (inB_true hc2).2
  have hbe : b ≤ e := by simp at hc3; omega
  have HS := hide (spB_iff.1 hc4)
  have HF := hide (cntV_yes (n := n) (a := a) (d := d) (s := s) (b := b) (e := e) (L := L) ⟨chB_iff.1 hc0, ⟨hb0, hbe, he1⟩, unhide HS⟩)
  clear hc0 hc1 hc2 hc4 r0 r1 r2 rf0 rf1 rf2
  have c0 := (unhide HO).cell (i := 0) rfl
  have c1 := (unhide HO).cell (i := 1) rfl
  have c2 := (unhide HO).cell (i := 2) rfl
  have c3 := (unhide HO).cell (i := 3) rfl
  have HT := hide fun V => tallyOf_any n a d s V
  unfold vCh at HT
  go_wp2_with fail
  refine (unhide HT _).mono ?_
  rintro e6 w6 ⟨rfl, ho, hb⟩
  clear c0 c1 c2 c3 HO HT
  generalize hgt : w5.heap.size + 1 = gt at *
  have hlt : w.heap.size + 1 < gt := by have := (unhide HR).lt; omega
  replace HR := hide ((unhide HR).step hb)
  replace HW := hide (Below.step (unhide HW) hb)
  have HT := hide ho
  clear ho hb hgt
  have HE := hide (eachStretch_any gt b e _ L (a, 0, 0, -1) w6 (fun W hk => r2_kept (unhide HVL) (unhide HW) (by omega) hk) (unhide HS) (unhide HT) hb0 hbe he1 a2 (Int.le_refl _) (by show a + 0 ≤ 100000; omega) (Int.le_refl _) (by show 0 + (e - b) ≤ 100000000000; omega))
  unfold addF at HE
  go_wp2_with fail
  refine (unhide HE).mono ?_
  rintro e7 w7 ⟨rfl, ho, hk⟩
  rw [stret_zero (unhide HS) hbe a2] at ho
  replace HR := hide ((unhide HR).kept hk (by show ¬ w.heap.size + 1 = gt; omega))
  replace HW := hide ((unhide HW).trans (hk.below (unhide HW).size fun k hk => by have hk : k = gt := hk; omega))
  have t1 := ho.cell (i := 1) rfl
  have t2 := ho.cell (i := 2) rfl
  have t3 := ho.cell (i := 3) rfl
  clear ho hk HE HT
  generalize cnt3 a b e L = q at *
  obtain ⟨q1, q2, q3⟩ := q
  dsimp only at t1 t2 t3
  have r0 := (unhide HR).cell (i := 0) rfl
  have rf0 := (unhide HR).frozen 0
  have r1 := (unhide HR).cell (i := 1) rfl
  have rf1 := (unhide HR).frozen 1
  have r2 := (unhide HR).cell (i := 2) rfl
  have rf2 := (unhide HR).frozen 2
  go_wp2
  have hr3 := own_set3 (unhide HR) (.int .i64 q1) (.int .i64 q2) (.int .i64 q3)
  have k0 := hr3.cell (i := 0) rfl
  have k1 := hr3.cell (i := 1) rfl
  have k2 := hr3.cell (i := 2) rfl
  refine bodyPost_ret (v := .tuple #[.agg #[.int .i64 q1, .int .i64 q2, .int .i64 q3], .bool true]) (by simp [results, Try.results16, go_sem, k0, k1, k2]) rfl ⟨ret_cb (unhide HF), below_set3 (unhide HW) hrs⟩

end Go.Proofs.Yticminoejikdfaa
