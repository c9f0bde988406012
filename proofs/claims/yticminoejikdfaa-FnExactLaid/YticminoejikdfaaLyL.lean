/- The program's Laid. Written by wip/mkly.py. -/
import Derived.Test.YticminoejikdfaaLyC
namespace Go.Proofs.Yticminoejikdfaa
open Go.RowKit

theorem tl_start {w : World} {gt : Nat} {a : Int} {P L : List I2} (h : OwnV w gt (cTl (a, 0, 0, -1))) : OwnV w gt (cTl (a - (layN a P L 0).1, layN a P L 0)) := by
  have e : cTl (a - (layN a P L 0).1, layN a P L 0) = cTl (a, 0, 0, -1) := by simp [layN]
  rw [e]; exact h

set_option maxRecDepth 100000 in
set_option maxHeartbeats 8000000 in
theorem implLaid_any (n a d s : Int) (vp v : Value) (P L : List I2) (w : World) (hp : R2 w vp P) (h : R2 w v L) :
    Calls Try.prog 17 #[vCh n a d s, vp, v] w fun r w' => r = .returned (.tuple #[v3 (layV n a d s P L).1, .bool (layV n a d s P L).2]) ∧ Below w.heap.size w w' := by
  have HVL := hide h
  have HVP := hide hp
  obtain ⟨ao, cap, rfl, hl, hm, -⟩ := h
  obtain ⟨po, pcap, rfl, hpl, hpm, hpc⟩ := hp
  unfold maxLen at hm hpm
  have HC := hide hpc
  clear hpc
  have HO := hide ((ownV_alloc w #[.int .i64 n, .int .i64 a, .int .i64 d, .int .i64 s] 25).step (Below.alloc1 _ (.cells #[.int .i64 0, .int .i64 0, .int .i64 0] 34)))
  have HR := hide (ownV_alloc (w.alloc (.cells #[.int .i64 n, .int .i64 a, .int .i64 d, .int .i64 s] 25)) #[.int .i64 0, .int .i64 0, .int .i64 0] 34)
  rw [World.size_alloc] at HR
  have HW := hide (below_alloc (Below.alloc1 w (.cells #[.int .i64 n, .int .i64 a, .int .i64 d, .int .i64 s] 25)) (.cells #[.int .i64 0, .int .i64 0, .int .i64 0] 34))
  have hrs : w.heap.size ≤ w.heap.size + 1 := Nat.le_add_right _ _
  have HQC := hide fun V => implCharterOk_any n a d s V
  have HQSP := hide fun V (hV : Below w.heap.size w V) => implSpellsOk_any _ P V ((unhide HVP).below hV)
  have HQSL := hide fun V (hV : Below w.heap.size w V) => implSpellsOk_any _ L V ((unhide HVL).below hV)
  unfold vCh at HQC ⊢
  cases hc0 : chB n a d s with
  | false =>
    rw [hc0] at HQC
    have HF := hide (layV_not (n := n) (a := a) (d := d) (s := s) (P := P) (L := L) fun h => chB_not hc0 h.1)
    go_enter Try.func17, Try.ntmps17
    go_wp2_with fail
    refine (unhide HQC _).mono ?_
    rintro e w1 ⟨rfl, hb⟩
    replace HO := hide ((unhide HO).step hb)
    replace HR := hide ((unhide HR).step hb)
    replace HW := hide (Below.step (unhide HW) hb)
    clear hb
    clear HQC
    have r0 := (unhide HR).cell (i := 0) rfl
    have rf0 := (unhide HR).frozen 0
    have r1 := (unhide HR).cell (i := 1) rfl
    have rf1 := (unhide HR).frozen 1
    have r2 := (unhide HR).cell (i := 2) rfl
    have rf2 := (unhide HR).frozen 2
    go_wp2
    have hr3 := own_set3 (unhide HR) (.int .i64 0) (.int .i64 0) (.int .i64 0)
    have k0 := hr3.cell (i := 0) rfl
    have k1 := hr3.cell (i := 1) rfl
    have k2 := hr3.cell (i := 2) rfl
    refine bodyPost_ret (v := .tuple #[.agg #[.int .i64 0, .int .i64 0, .int .i64 0], .bool false]) (by simp [results, Try.results17, go_sem, k0, k1, k2]) rfl ⟨ret_cb (unhide HF), below_set3 (unhide HW) hrs⟩
  | true =>
  rw [hc0] at HQC
  cases hc1 : ((P.length : Int) == 0) with
  | true =>
    have HF := hide (layV_not (n := n) (a := a) (d := d) (s := s) (P := P) (L := L) fun h => by have h1 := h.2.1; simp at hc1; rw [hc1] at h1; simp at h1)
    go_enter Try.func17, Try.ntmps17
    go_wp2_with fail
    refine (unhide HQC _).mono ?_
    rintro e w1 ⟨rfl, hb⟩
    replace HO := hide ((unhide HO).step hb)
    replace HR := hide ((unhide HR).step hb)
    replace HW := hide (Below.step (unhide HW) hb)
    clear hb
    clear HQC
    have r0 := (unhide HR).cell (i := 0) rfl
    have rf0 := (unhide HR).frozen 0
    have r1 := (unhide HR).cell (i := 1) rfl
    have rf1 := (unhide HR).frozen 1
    have r2 := (unhide HR).cell (i := 2) rfl
    have rf2 := (unhide HR).frozen 2
    go_wp2
    have hr3 := own_set3 (unhide HR) (.int .i64 0) (.int .i64 0) (.int .i64 0)
    have k0 := hr3.cell (i := 0) rfl
    have k1 := hr3.cell (i := 1) rfl
    have k2 := hr3.cell (i := 2) rfl
    refine bodyPost_ret (v := .tuple #[.agg #[.int .i64 0, .int .i64 0, .int .i64 0], .bool false]) (by simp [results, Try.results17, go_sem, k0, k1, k2]) rfl ⟨ret_cb (unhide HF), below_set3 (unhide HW) hrs⟩
  | false =>
  cases hc2 : spB P with
  | false =>
    rw [hc2] at HQSP
    have HF := hide (layV_not (n := n) (a := a) (d := d) (s := s) (P := P) (L := L) fun h => spB_not hc2 (h.2.2.1))
    go_enter Try.func17, Try.ntmps17
    go_wp2_with fail
    refine (unhide HQC _).mono ?_
    rintro e w1 ⟨rfl, hb⟩
    replace HO := hide ((unhide HO).step hb)
    replace HR := hide ((unhide HR).step hb)
    replace HW := hide (Below.step (unhide HW) hb)
    clear hb
    clear HQC
    go_wp2_with fail
    refine (unhide HQSP _ (unhide HW)).mono ?_
    rintro e w3 ⟨rfl, hb⟩
    replace HO := hide ((unhide HO).step hb)
    replace HR := hide ((unhide HR).step hb)
    replace HW := hide (Below.step (unhide HW) hb)
    clear hb
    clear HQSP
    have r0 := (unhide HR).cell (i := 0) rfl
    have rf0 := (unhide HR).frozen 0
    have r1 := (unhide HR).cell (i := 1) rfl
    have rf1 := (unhide HR).frozen 1
    have r2 := (unhide HR).cell (i := 2) rfl
    have rf2 := (unhide HR).frozen 2
    go_wp2
    have hr3 := own_set3 (unhide HR) (.int .i64 0) (.int .i64 0) (.int .i64 0)
    have k0 := hr3.cell (i := 0) rfl
    have k1 := hr3.cell (i := 1) rfl
    have k2 := hr3.cell (i := 2) rfl
    refine bodyPost_ret (v := .tuple #[.agg #[.int .i64 0, .int .i64 0, .int .i64 0], .bool false]) (by simp [results, Try.results17, go_sem, k0, k1, k2]) rfl ⟨ret_cb (unhide HF), below_set3 (unhide HW) hrs⟩
  | true =>
  rw [hc2] at HQSP
  cases hc3 : spB L with
  | false =>
    rw [hc3] at HQSL
    have HF := hide (layV_not (n := n) (a := a) (d := d) (s := s) (P := P) (L := L) fun h => spB_not hc3 (h.2.2.2))
    go_enter Try.func17, Try.ntmps17
    go_wp2_with fail
    refine (unhide HQC _).mono ?_
    rintro e w1 ⟨rfl, hb⟩
    replace HO := hide ((unhide HO).step hb)
    replace HR := hide ((unhide HR).step hb)
    replace HW := hide (Below.step (unhide HW) hb)
    clear hb
    clear HQC
    go_wp2_with fail
    refine (unhide HQSP _ (unhide HW)).mono ?_
    rintro e w3 ⟨rfl, hb⟩
    replace HO := hide ((unhide HO).step hb)
    replace HR := hide ((unhide HR).step hb)
    replace HW := hide (Below.step (unhide HW) hb)
    clear hb
    clear HQSP
    go_wp2_with fail
    refine (unhide HQSL _ (unhide HW)).mono ?_
    rintro e w4 ⟨rfl, hb⟩
    replace HO := hide ((unhide HO).step hb)
    replace HR := hide ((unhide HR).step hb)
    replace HW := hide (Below.step (unhide HW) hb)
    clear hb
    clear HQSL
    have r0 := (unhide HR).cell (i := 0) rfl
    have rf0 := (unhide HR).frozen 0
    have r1 := (unhide HR).cell (i := 1) rfl
    have rf1 := (unhide HR).frozen 1
    have r2 := (unhide HR).cell (i := 2) rfl
    have rf2 := (unhide HR).frozen 2
    go_wp2
    have hr3 := own_set3 (unhide HR) (.int .i64 0) (.int .i64 0) (.int .i64 0)
    have k0 := hr3.cell (i := 0) rfl
    have k1 := hr3.cell (i := 1) rfl
    have k2 := hr3.cell (i := 2) rfl
    refine bodyPost_ret (v := .tuple #[.agg #[.int .i64 0, .int .i64 0, .int .i64 0], .bool false]) (by simp [results, Try.results17, go_sem, k0, k1, k2]) rfl ⟨ret_cb (unhide HF), below_set3 (unhide HW) hrs⟩
  | true =>
  rw [hc3] at HQSL
  go_enter Try.func17, Try.ntmps17
  go_wp2_with fail
  refine (unhide HQC _).mono ?_
  rintro e w1 ⟨rfl, hb⟩
  replace HO := hide ((unhide HO).step hb)
  replace HR := hide ((unhide HR).step hb)
  replace HW := hide (Below.step (unhide HW) hb)
  clear hb
  clear HQC
  go_wp2_with fail
  refine (unhide HQSP _ (unhide HW)).mono ?_
  rintro e w3 ⟨rfl, hb⟩
  replace HO := hide ((unhide HO).step hb)
  replace HR := hide ((unhide HR).step hb)
  replace HW := hide (Below.step (unhide HW) hb)
  clear hb
  clear HQSP
  go_wp2_with fail
  refine (unhide HQSL _ (unhide HW)).mono ?_
  rintro e w4 ⟨rfl, hb⟩
  replace HO := hide ((unhide HO).step hb)
  replace HR := hide ((unhide HR).step hb)
  replace HW := hide (Below.step (unhide HW) hb)
  clear hb
  clear HQSL
  have r0 := (unhide HR).cell (i := 0) rfl
  have rf0 := (unhide HR).frozen 0
  have r1 := (unhide HR).cell (i := 1) rfl
  have rf1 := (unhide HR).frozen 1
  have r2 := (unhide HR).cell (i := 2) rfl
  have rf2 := (unhide HR).frozen 2
  have HCH := hide (chB_iff.1 hc0)
  obtain ⟨-, ⟨a2, a3⟩, -⟩ := unhide HCH
  have hP0 : 0 < P.length := by simp at hc1; exact List.length_pos_iff.2 hc1
  have HSP := hide (spB_iff.1 hc2)
  have HSL := hide (spB_iff.1 hc3)
  have hn := (unhide HSP).1
  have HF := hide (layV_yes (n := n) (a := a) (d := d) (s := s) (P := P) (L := L) ⟨unhide HCH, hP0, unhide HSP, unhide HSL⟩)
  have HI := hide fun k hk => layN_inv (A := a) (P := P) (L := L) a2 (unhide HSP) (unhide HSL) k hk
  clear hc0 hc1 hc2 hc3 hP0 r0 r1 r2 rf0 rf1 rf2
  have c0 := (unhide HO).cell (i := 0) rfl
  have c1 := (unhide HO).cell (i := 1) rfl
  have c2 := (unhide HO).cell (i := 2) rfl
  have c3 := (unhide HO).cell (i := 3) rfl
  have HT := hide fun V => tallyOf_any n a d s V
  unfold vCh at HT
  go_wp2_with fail
  refine (unhide HT _).mono ?_
  rintro e6 w6 ⟨rfl, ho, hb⟩
  clear c0 c1 c2 c3 HO HT
  generalize hgt : w4.heap.size + 1 = gt at *
  have hlt : w.heap.size + 1 < gt := by have := (unhide HR).lt; omega
  replace HR := hide ((unhide HR).step hb)
  replace HW := hide (Below.step (unhide HW) hb)
  have HT := hide ho
  clear ho hb hgt
  go_wp2
  go_loopg [34] P.length (fun g i wr => Hid (Below w.heap.size w wr) ∧ Hid (OwnV wr (w.heap.size + 1) [.int .i64 0, .int .i64 0, .int .i64 0]) ∧ ∃ k : Nat, k ≤ P.length ∧ g = P.length - k ∧ i = .int .i64 k ∧ Hid (OwnV wr gt (cTl (a - (layN a P L k).1, layN a P L k))))
  case atStart => exact ⟨unhide HW, unhide HR, 0, Nat.zero_le _, rfl, rfl, tl_start (unhide HT)⟩
  case round =>
    clear HW HR HT
    obtain ⟨HW, HR, k, hk, rfl, rfl, HT⟩ := hrel
    by_cases hkn : k < P.length
    · obtain ⟨b1, o, x, y, rfl, hx, hy, EX⟩ := rec2At (unhide HC) hkn
      have g0 := ((unhide HW).cell (lt_of_cell hx)).trans hx
      have g1 := ((unhide HW).cell (lt_of_cell hy)).trans hy
      have hbw : b1 < w.heap.size := lt_of_cell hx
      have hki : (k : Int) < P.length := by omega
      obtain ⟨hx0, hxy, hy1, -⟩ := (unhide HSP).2 k hkn
      unfold fr at hx0 hxy
      unfold tw at hxy hy1
      rw [unhide EX] at hx0 hxy hy1
      dsimp only at hx0 hxy hy1
      have EN : Hid (layN a P L (k + 1) = lay1 a L (x, y) (layN a P L k)) := by show _ = _; rw [layN, unhide EX]
      have HIk := unhide HI k hk
      have hkk : (k : Int) ≤ 100 := by omega
      have HST := hide (lay_step (unhide HSL) HIk (b := x) (d := y) (by omega))
      rw [← unhide EN] at HST
      have hu0 := HIk.u0
      have hu1 := HIk.u1
      have ho0 := HIk.o0
      have ho1 := HIk.o1
      clear hx hy EX HIk EN
      obtain ⟨q2, e2⟩ : ∃ q, q = layN a P L (k + 1) := ⟨_, rfl⟩
      rw [← e2] at HST
      have E2 := hide e2
      clear e2
      generalize layN a P L k = q at *
      have A := Below.alloc1 wr (.cells #[.int .i64 x, .int .i64 y] 39)
      have HW1 := hide (Below.step (unhide HW) A)
      have HR1 := hide ((unhide HR).step A)
      have HT1 := hide ((unhide HT).step A)
      have hgl := (unhide HT).lt
      clear A
      have HE := hide fun V (hw : Below w.heap.size w V) (ht : OwnV V gt (cTl (a - q.1, q))) => eachStretch_any gt x y _ L (a - q.1, q) V (fun W hk => r2_kept (unhide HVL) hw (by omega) hk) (unhide HSL) ht hx0 (by omega) hy1 (by show 0 ≤ a - q.1; omega) hu0 (by show a - q.1 + q.1 ≤ 100000; omega) ho0 (by show q.2.1 + (y - x) ≤ 100000000000; omega)
      unfold addF at HE
      go_wp2_with fail
      refine (unhide HE _ (unhide HW1) (unhide HT1)).mono ?_
      rintro e7 w7 ⟨rfl, ho, hk2⟩
      rw [unhide HST] at ho
      have HT2 := hide ho
      have HR2 := hide ((unhide HR1).kept hk2 (by show ¬ w.heap.size + 1 = gt; omega))
      have HW2 := hide ((unhide HW1).trans (hk2.below (unhide HW1).size fun k hk => by have hk : k = gt := hk; omega))
      clear ho hk2 HE HT1 HR1 HW1
      go_wp2
      go_roundg (P.length - (k + 1))
      case measure => omega
      case rel => exact ⟨unhide HW2, unhide HR2, k + 1, by omega, rfl, by go_num, by rw [← unhide E2]; exact unhide HT2⟩
    · obtain rfl : k = P.length := by omega
      generalize layN a P L P.length = q at *
      obtain ⟨q1, q2, q3⟩ := q
      have t1 := (unhide HT).cell (i := 1) rfl
      have t2 := (unhide HT).cell (i := 2) rfl
      have t3 := (unhide HT).cell (i := 3) rfl
      dsimp only at t1 t2 t3
      have hgl := (unhide HT).lt
      have r0 := (unhide HR).cell (i := 0) rfl
      have rf0 := (unhide HR).frozen 0
      have r1 := (unhide HR).cell (i := 1) rfl
      have rf1 := (unhide HR).frozen 1
      have r2 := (unhide HR).cell (i := 2) rfl
      have rf2 := (unhide HR).frozen 2
      go_wp2
      have hr3 := own_set3 (unhide HR) (.int .i64 q1) (.int .i64 q2) (.int .i64 q3)
      have k0 := hr3.cell (i := 0) rfl
      have k1 := hr3.cell (i := 1) rfl
      have k2 := hr3.cell (i := 2) rfl
      refine bodyPost_ret (v := .tuple #[.agg #[.int .i64 q1, .int .i64 q2, .int .i64 q3], .bool true]) (by simp [results, Try.results17, go_sem, k0, k1, k2]) rfl ⟨ret_cb (unhide HF), below_set3 (unhide HW) hrs⟩

end Go.Proofs.Yticminoejikdfaa
