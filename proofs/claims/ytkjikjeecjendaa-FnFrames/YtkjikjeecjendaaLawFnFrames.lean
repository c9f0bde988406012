/- FnFrames: whatever the bytes, a drawn report that is right comes back from its frame, and a frame with one or two bits turned is not taken. Written by wip/mkfrl.py. -/
import Derived.Test.YtkjikjeecjendaaFrC
import Derived.Test.YtkjikjeecjendaaFrA
import Derived.Test.YtkjikjeecjendaaRdO
import Derived.Test.YtkjikjeecjendaaFmI
import Derived.Laws.StructEq
import Derived.BigRegion
namespace Go.Proofs.Ytkjikjeecjendaa
open Go.RowKit

theorem Try.eqgRep : Try.prog.eqGuardType Try.prog.depth 25 = false := by kernel_rfl
theorem Try.heldRep : Try.prog.stoodInHeld 25 = false := by kernel_rfl
theorem neq_rep (k i x y s n : Int) (w : World) : (binOp .neq 25 (.agg #[.int .i64 k, .int .i64 i, .int .i64 x, .int .i64 y, .int .i64 s, .int .i64 n]) (.agg #[.int .i64 k, .int .i64 i, .int .i64 x, .int .i64 y, .int .i64 s, .int .i64 n])).run Try.prog w = .ok (.bool false) w := by
  rw [run_neq_struct, run_equalIn_agg _ _ _ _ _ (by rw [Program.fieldsOf, Try.underlying25]) Try.heldRep]
  simp [go_sem, Program.fieldsOf, Try.underlying25, Try.underlying3]
theorem at_nat (v : Value) (n B k : Nat) (w : World) (h : BytesIn B w v n) (hn : n ≤ 1048576) (hk : k ≤ 1000) :
    Calls Try.prog 19 #[v, .int .i64 k] w fun e w' => ∃ x : Nat, e = .returned (.int .i64 x) ∧ x ≤ 255 ∧ w = w' := by
  refine (at_any v n B k w h hn hk).mono ?_
  rintro e w' ⟨x, rfl, h0, h1, rfl⟩
  exact ⟨x.toNat, by rw [Int.toNat_of_nonneg h0], by omega, rfl⟩

theorem turn_val (b r : Nat) (hb : b < 256) (hr : r < 8) : bits .xor .u8 (b : Int) ((2 : Int) ^ r % 256) = ((b ^^^ 2 ^ r : Nat) : Int) := by
  have h1 := p8_lt r hr
  have e : (2 : Int) ^ r % 256 = ((2 ^ r : Nat) : Int) := by
    have : ((2 ^ r : Nat) : Int) = (2 : Int) ^ r := by rw [Int.natCast_pow]; rfl
    rw [← this]
    generalize 2 ^ r = d at h1 ⊢
    omega
  rw [e]
  exact u8_xor_nat b (2 ^ r) hb h1
theorem own_turn {w : World} {g : Nat} {L : List Byte} {A q r bv : Nat} (h : OwnV w g (L.map eB)) (hq : A / 8 = q) (hr : A % 8 = r) (hb : bv = (L.getD q default).val) (hl : q < L.length) :
    OwnV (w.setCell ⟨g, q, none⟩ (.int .u8 (bits .xor .u8 (bv : Int) ((2 : Int) ^ r % 256)))).drew g ((turnL L A).map eB) := by
  subst hq
  subst hr
  have hlt := (L.getD (A / 8) default).isLt
  rw [turn_val bv _ (by omega) (Nat.mod_lt _ (by omega)), hb]
  have := h.set (A / 8) (eB (turnB (L.getD (A / 8) default) (2 ^ (A % 8)) (p8_lt _ (Nat.mod_lt _ (by omega))))) (by rw [List.length_map]; exact hl)
  rw [← List.map_set] at this
  exact this
theorem take15 {w : World} {g cap : Nat} {L : List Byte} (h : OwnV w g (L.map eB)) (hl : L.length = 16) (hc : 16 ≤ cap) (hm : cap ≤ maxLen) : ByIn w (.slice (some ⟨g, 0, none⟩) 15 cap) (L.take 15) := by
  have e : (L.take 15).length = 15 := by simp [hl]
  refine ⟨_, cap, by rw [e], by omega, hm, fun i hi => ⟨g, 0, rfl, ?_⟩⟩
  rw [e] at hi
  rw [Nat.zero_add, h.cell (map_get L (i := i) (by omega))]
  simp [List.getD, hi]

set_option maxRecDepth 10000 in
set_option maxHeartbeats 3200000 in
theorem fnFrames_any (v : Value) (nb : Nat) (w : World) (h : BytesIn w.heap.size w v nb) :
    Calls Try.prog 3 #[v] w fun e w' => e = .returned (.bool true) ∧ Below w.heap.size w w' := by
  obtain ⟨i0, hinf, hzz⟩ := Option.map_eq_some_iff.1 Try.infoU8
  simp only [Prod.mk.injEq] at hzz
  obtain ⟨hz0, hz1, hz2⟩ := hzz
  have HB := hide h
  have HD := hide fun hn => drawPackReport_any v nb w h hn
  obtain ⟨vao, vcap, rfl, hl, hm, _⟩ := h
  unfold maxLen at hm
  have HBIG := hide (big_any vao nb vcap w)
  cases hbig : decide ((1048576 : Int) < (nb : Int)) with
  | true =>
    rw [hbig] at HBIG
    go_enter Try.func3, Try.ntmps3
    go_wp2_with fail
    refine (unhide HBIG).mono ?_
    rintro e w' ⟨rfl, rfl⟩
    go_wp2
    go_ret
    exact ⟨rfl, Below.refl _ _⟩
  | false =>
  rw [hbig] at HBIG
  have hnb : nb ≤ 1048576 := by rw [decide_eq_false_iff_not] at hbig; omega
  replace HD := hide (unhide HD hnb)
  have HAT := hide fun W (hW : Below w.heap.size w W) k hk => at_nat _ nb w.heap.size k W ((unhide HB).below hW (Nat.le_refl _)) hnb hk
  clear hbig
  go_enter Try.func3, Try.ntmps3
  go_wp2_with fail
  refine (unhide HBIG).mono ?_
  rintro e w' ⟨rfl, h9⟩
  have h8 := h9.symm
  subst h8
  clear h9 HBIG
  go_wp2_with fail
  refine (unhide HD).mono ?_
  rintro e w1 ⟨k, i, x, y, s, m, rfl, hb⟩
  have HK := hide (packed_read (k := k) (i := i) (x := x) (y := y) (s := s) (n := m))
  have HCK := hide (packed_chk k i x y s m)
  have HLN := hide (packed_len k i x y s m)
  have HW := hide hb
  clear hb HD
  have HP := hide fun W => implPackReport_any k i x y s m W
  have HS := hide fun W => specReportOk_any k i x y s m W
  have HI := hide fun W => implReportOk_any k i x y s m W
  have hA := Below.alloc1 w1 (.cells #[.int .i64 k, .int .i64 i, .int .i64 x, .int .i64 y, .int .i64 s, .int .i64 m] 25)
  have HO := hide (ownV_alloc w1 #[.int .i64 k, .int .i64 i, .int .i64 x, .int .i64 y, .int .i64 s, .int .i64 m] 25)
  replace HW := hide (Below.step (unhide HW) hA)
  have hw1 := (unhide HW).size
  clear hA
  generalize hrep : repB k i x y s m = B at *
  have HPF : Hid (packF k i x y s m = if B then packed k i x y s m else []) := by show _ = _; unfold packF; rw [hrep]
  rw [unhide HPF] at HP
  generalize packed k i x y s m = FR at *
  unfold vReport at HP HS HI HK ⊢
  clear hrep HPF
  have d0 := (unhide HO).cell (i := 0) rfl
  have d1 := (unhide HO).cell (i := 1) rfl
  have d2 := (unhide HO).cell (i := 2) rfl
  have d3 := (unhide HO).cell (i := 3) rfl
  have d4 := (unhide HO).cell (i := 4) rfl
  have d5 := (unhide HO).cell (i := 5) rfl
  generalize hV : w1.alloc (.cells #[.int .i64 k, .int .i64 i, .int .i64 x, .int .i64 y, .int .i64 s, .int .i64 m] 25) = V at *
  go_wp2_with fail
  refine (unhide HP _).mono ?_
  rintro e w2 ⟨fa, fn, fc, rfl, ho, hb⟩
  have HF := hide ho
  clear ho hV
  clear d0 d1 d2 d3 d4 d5
  replace HO := hide ((unhide HO).step hb)
  replace HW := hide (Below.step (unhide HW) hb)
  clear hb
  have d0 := (unhide HO).cell (i := 0) rfl
  have d1 := (unhide HO).cell (i := 1) rfl
  have d2 := (unhide HO).cell (i := 2) rfl
  have d3 := (unhide HO).cell (i := 3) rfl
  have d4 := (unhide HO).cell (i := 4) rfl
  have d5 := (unhide HO).cell (i := 5) rfl
  go_wp2_with fail
  refine (unhide HS _).mono ?_
  rintro e w3 ⟨rfl, hb⟩
  replace HF := hide ((unhide HF).upto.below hb)
  clear d0 d1 d2 d3 d4 d5
  replace HO := hide ((unhide HO).step hb)
  replace HW := hide (Below.step (unhide HW) hb)
  clear hb
  clear HS
  have d0 := (unhide HO).cell (i := 0) rfl
  have d1 := (unhide HO).cell (i := 1) rfl
  have d2 := (unhide HO).cell (i := 2) rfl
  have d3 := (unhide HO).cell (i := 3) rfl
  have d4 := (unhide HO).cell (i := 4) rfl
  have d5 := (unhide HO).cell (i := 5) rfl
  cases B with
  | false =>
    have hF := unhide HF
    obtain ⟨a', c', e', -⟩ := hF
    simp only [Bool.false_eq_true, if_false, List.length_nil, Value.slice.injEq] at e'
    obtain ⟨rfl, rfl, rfl⟩ := e'
    clear HF
    go_wp2_with fail
    refine (unhide HI _).mono ?_
    rintro e w4 ⟨rfl, hb⟩
    replace HW := hide (Below.step (unhide HW) hb)
    clear hb
    go_wp2
    go_ret
    exact ⟨rfl, unhide HW⟩
  | true =>
  obtain ⟨HK1, HK2⟩ := unhide HK rfl
  replace HK := hide HK1
  have HKV := hide HK2
  clear HK1 HK2
  rw [if_pos rfl] at HF
  obtain ⟨a', c', e', hc1, hc2, hF⟩ := unhide HF
  simp only [unhide HLN, Value.slice.injEq] at e'
  obtain ⟨rfl, rfl, rfl⟩ := e'
  rw [unhide HLN] at hc1
  obtain ⟨gf, rfl, hgf, hgu, hof⟩ := hF (fun e => by have := unhide HLN; rw [e] at this; simp at this)
  replace HF := hide hof
  clear hof hF
  have hfc : fc ≤ 9223372036854775807 := by unfold maxLen at hc2; omega
  have HFC := hide hc2
  clear hc2
  go_wp2_with fail
  refine (unhide HI _).mono ?_
  rintro e w4 ⟨rfl, hb⟩
  replace HF := hide ((unhide HF).step hb)
  clear d0 d1 d2 d3 d4 d5
  replace HO := hide ((unhide HO).step hb)
  replace HW := hide (Below.step (unhide HW) hb)
  clear hb
  clear HI HP
  have HR1 := hide (implReadReport_any _ FR w4 (by have := OwnV.cIn (unhide HF) (cap := fc) (by rw [unhide HLN]; exact hc1) (unhide HFC); rw [unhide HLN] at this; exact this))
  rw [unhide HK, unhide HKV] at HR1
  go_wp2_with fail
  refine (unhide HR1).mono ?_
  rintro e w5 ⟨rfl, hb⟩
  replace HF := hide ((unhide HF).step hb)
  replace HO := hide ((unhide HO).step hb)
  replace HW := hide (Below.step (unhide HW) hb)
  clear hb
  clear HR1 HK HKV
  have hA := Below.alloc1 w5 (.cells #[.int .i64 k, .int .i64 i, .int .i64 x, .int .i64 y, .int .i64 s, .int .i64 m] 25)
  have HO2 := hide (ownV_alloc w5 #[.int .i64 k, .int .i64 i, .int .i64 x, .int .i64 y, .int .i64 s, .int .i64 m] 25)
  replace HO := hide ((unhide HO).step hA)
  replace HF := hide ((unhide HF).step hA)
  replace HW := hide (Below.step (unhide HW) hA)
  have f0 := (unhide HO2).cell (i := 0) rfl
  have f1 := (unhide HO2).cell (i := 1) rfl
  have f2 := (unhide HO2).cell (i := 2) rfl
  have f3 := (unhide HO2).cell (i := 3) rfl
  have f4 := (unhide HO2).cell (i := 4) rfl
  have f5 := (unhide HO2).cell (i := 5) rfl
  clear hA
  have d0 := (unhide HO).cell (i := 0) rfl
  have d1 := (unhide HO).cell (i := 1) rfl
  have d2 := (unhide HO).cell (i := 2) rfl
  have d3 := (unhide HO).cell (i := 3) rfl
  have d4 := (unhide HO).cell (i := 4) rfl
  have d5 := (unhide HO).cell (i := 5) rfl
  have hNe := neq_rep k i x y s m
  have hGd := fun x' y' w => run_eqGuard_agg (P := Try.prog) w .neq 25 x' y' #[.int .i64 k, .int .i64 i, .int .i64 x, .int .i64 y, .int .i64 s, .int .i64 m] #[.int .i64 k, .int .i64 i, .int .i64 x, .int .i64 y, .int .i64 s, .int .i64 m] Try.eqgRep
  generalize hV : w5.alloc (.cells #[.int .i64 k, .int .i64 i, .int .i64 x, .int .i64 y, .int .i64 s, .int .i64 m] 25) = V5 at *
  go_wp2_with fail
  refine (unhide HAT _ (unhide HW) 1 (by omega)).mono ?_
  rintro e w6 ⟨ra, rfl, hra, h9⟩
  subst h9
  go_wp2_with fail
  refine (unhide HAT _ (unhide HW) 2 (by omega)).mono ?_
  rintro e w6 ⟨rb, rfl, hrb, h9⟩
  subst h9
  clear hNe hGd f0 f1 f2 f3 f4 f5 HO2 HO HAT HB d0 d1 d2 d3 d4 d5

  obtain ⟨A, hmA⟩ : ∃ A : Nat, (ra : Int) % 128 = (A : Int) := ⟨ra % 128, by omega⟩
  obtain ⟨C, hmC⟩ : ∃ C : Nat, (rb : Int) % 128 = (C : Int) := ⟨rb % 128, by omega⟩
  have hA8 : A < 128 := by omega
  have hC8 : C < 128 := by omega
  have hgv : gf < V5.heap.size := (unhide HF).lt
  have hwv : w'.heap.size ≤ V5.heap.size := (unhide HW).size
  have HB0 := hide (Below.alloc1 V5 (.cells #[] 5))
  have HM0 := hide (ownsRow_lit V5 #[] 5 0 rfl (by unfold maxLen; omega))
  have HN0 := hide fun j u (hj : (FR.map eB)[j]? = some u) => ((unhide HF).step (unhide HB0)).cell hj
  clear hV
  go_wp2_with (at_builtin; go_must (refine wpList_append_whole rfl _ _ 22 rfl V5.heap.size 5 i0 _ 1 1 Try.underlying22 hinf hz0 hz1 hz2 rfl (by decide) V5.heap.size rfl (unhide HM0) (some ⟨gf, 0, none⟩) 16 fc (FR.map eB) rfl (by rw [List.length_map, unhide HLN]) (fun _ => ⟨_, rfl, fun j u hj => by rw [show (⟨gf, 0, none⟩ : Addr).add j = ⟨gf, j, none⟩ from by cases j <;> simp [Addr.add]]; exact unhide HN0 j u hj⟩) (fun u hu => by obtain ⟨z, _, rfl⟩ := List.mem_map.1 hu; rfl) (by unfold maxLen; omega) (by omega) (by simp) ?_); intro gh ch w7 hown hgrow hat; have HBW := hide ((unhide HB0).grown hgrow (by simp) (fun g hg => by simp at hg; omega)); have HOW := hide hown; clear hown hgrow hat)
  have hb := unhide HBW
  replace HW := hide (Below.step (unhide HW) hb)
  replace HF := hide ((unhide HF).step hb)
  obtain ⟨a', c', e', hd1, hd2, hH⟩ := ownsRow_ownC (E := eB) (unhide HOW) (unhide HLN)
  simp only [unhide HLN, Value.slice.injEq, true_and] at e'
  obtain ⟨rfl, rfl⟩ := e'
  rw [unhide HLN] at hd1
  obtain ⟨gh', egh, hgh, hoh⟩ := hH (fun e => by have := unhide HLN; rw [e] at this; simp at this)
  simp only [Option.some.injEq, Addr.mk.injEq, and_true] at egh
  subst egh
  have HH := hide hoh
  have HDC := hide hd2
  have hch : ch ≤ 9223372036854775807 := by unfold maxLen at hd2; omega
  clear hb hoh hH hd2 HOW HBW HM0 HN0 HB0
  obtain ⟨q1, hq1⟩ : ∃ q : Nat, A / 8 = q := ⟨_, rfl⟩
  obtain ⟨r1, hr1⟩ : ∃ r : Nat, A % 8 = r := ⟨_, rfl⟩
  have t1 : (A : Int) / 8 = (q1 : Int) := by omega
  have t2 : (A : Int) % 8 = (r1 : Int) := by omega
  have hq16 : (q1 : Int) < 16 := by omega
  have hr8 : (r1 : Int) < 8 := by omega
  have hr8n : r1 < 8 := by omega
  have bq := (unhide HH).cell (map_get (E := eB) FR (i := q1) (by rw [unhide HLN]; omega))
  have fq := (unhide HH).frozen q1
  have hbl := (FR.getD q1 default).isLt
  unfold eB at bq
  obtain ⟨bv, ebv⟩ : ∃ z, z = (FR.getD q1 default).val := ⟨_, rfl⟩
  rw [← ebv] at bq hbl
  have HEB := hide ebv
  have HQ := hide hq1
  have HRR := hide hr1
  clear ebv hq1 hr1
  have hwg : w'.heap.size ≤ gh := by omega
  have HHN := hide (own_turn (A := A) (unhide HH) (unhide HQ) (unhide HRR) (unhide HEB) (by rw [unhide HLN]; omega))
  have HKN : Hid (Kept (fun b => b = gh) w7 (w7.setCell ⟨gh, q1, none⟩ (.int .u8 (bits .xor .u8 (bv : Int) ((2 : Int) ^ r1 % 256)))).drew) := ((Kept.refl (fun b => b = gh) w7).setCell (p := ⟨gh, q1, none⟩) rfl _).trans (kept_of_below (below_drewN (Below.refl _ _) 1))
  go_region
  obtain ⟨w8, hwn⟩ : ∃ z, z = (w7.setCell ⟨gh, q1, none⟩ (.int .u8 (bits .xor .u8 (bv : Int) ((2 : Int) ^ r1 % 256)))).drew := ⟨_, rfl⟩
  rw [← hwn] at HHN HKN ⊢
  replace HH := HHN
  replace HF := hide ((unhide HF).kept (unhide HKN) (by omega))
  replace HW := hide ((unhide HW).trans ((unhide HKN).below (B := w'.heap.size) (unhide HW).size (fun b e => by omega)))
  clear HHN HKN hwn bq fq hbl HEB HQ HRR t1 t2 hq16 hr8 hr8n
  have E1 := read_turn1 (unhide HLN) (unhide HCK) hA8
  have HR1 := hide (implReadReport_any _ (turnL FR A) w8 (by have := OwnV.cIn (unhide HH) (cap := ch) (by rw [turnL_len, unhide HLN]; exact hd1) (unhide HDC); rw [turnL_len, unhide HLN] at this; exact this))
  rw [E1, readV_not E1 (by omega)] at HR1
  have E2 := hide (fun h : A ≠ C => read_turn2 (unhide HLN) (unhide HCK) hA8 hC8 h)
  clear E1
  unfold vReport at HR1
  go_wp2_with fail
  refine (unhide HR1).mono ?_
  rintro e w9 ⟨rfl, hb⟩
  have hA := Below.step hb (Below.alloc1 w9 (.cells #[.int .i64 0, .int .i64 0, .int .i64 0, .int .i64 0, .int .i64 0, .int .i64 0] 25))
  replace HH := hide ((unhide HH).step hA)
  replace HF := hide ((unhide HF).step hA)
  replace HW := hide (Below.step (unhide HW) hA)
  clear hb hA HR1
  have E3 : readC (FR.take 15) = 1 := readC_len (by simp [unhide HLN])
  have HR2 := hide (implReadReport_any _ (FR.take 15) _ (take15 (unhide HF) (unhide HLN) hc1 (unhide HFC)))
  rw [E3, readV_not E3 (by omega)] at HR2
  clear E3
  unfold vReport at HR2
  have h15 : (15 : Int) ≤ (fc : Int) := by omega
  have h15n : 15 ≤ fc := by omega
  go_wp2_with fail
  refine (unhide HR2).mono ?_
  rintro e wA ⟨rfl, hb⟩
  have hA := Below.step hb (Below.alloc1 wA (.cells #[.int .i64 0, .int .i64 0, .int .i64 0, .int .i64 0, .int .i64 0, .int .i64 0] 25))
  replace HH := hide ((unhide HH).step hA)
  replace HW := hide (Below.step (unhide HW) hA)
  clear hb hA HR2 HF HCK h15 h15n
  by_cases hAC : A = C
  · subst hAC
    have hAA : ((A : Int) == (A : Int)) = true := by simp
    go_wp2
    go_ret
    exact ⟨rfl, unhide HW⟩
  have hne : ((A : Int) == (C : Int)) = false := by rw [beq_eq_false_iff_ne]; omega
  replace E2 := hide (unhide E2 hAC)
  clear hAC
  go_wp2
  generalize wA.alloc (.cells #[.int .i64 0, .int .i64 0, .int .i64 0, .int .i64 0, .int .i64 0, .int .i64 0] 25) = VA at *
  obtain ⟨q2, hq2⟩ : ∃ q : Nat, C / 8 = q := ⟨_, rfl⟩
  obtain ⟨r2, hr2⟩ : ∃ r : Nat, C % 8 = r := ⟨_, rfl⟩
  have t1 : (C : Int) / 8 = (q2 : Int) := by omega
  have t2 : (C : Int) % 8 = (r2 : Int) := by omega
  have hq16 : (q2 : Int) < 16 := by omega
  have hr8 : (r2 : Int) < 8 := by omega
  have hr8n : r2 < 8 := by omega
  have bq := (unhide HH).cell (map_get (E := eB) (turnL FR A) (i := q2) (by rw [turnL_len, unhide HLN]; omega))
  have fq := (unhide HH).frozen q2
  have hbl := ((turnL FR A).getD q2 default).isLt
  unfold eB at bq
  obtain ⟨bv, ebv⟩ : ∃ z, z = ((turnL FR A).getD q2 default).val := ⟨_, rfl⟩
  rw [← ebv] at bq hbl
  have HEB := hide ebv
  have HQ := hide hq2
  have HRR := hide hr2
  clear ebv hq2 hr2
  have HHN := hide (own_turn (A := C) (unhide HH) (unhide HQ) (unhide HRR) (unhide HEB) (by rw [turnL_len, unhide HLN]; omega))
  have HKN : Hid (Kept (fun b => b = gh) VA (VA.setCell ⟨gh, q2, none⟩ (.int .u8 (bits .xor .u8 (bv : Int) ((2 : Int) ^ r2 % 256)))).drew) := ((Kept.refl (fun b => b = gh) VA).setCell (p := ⟨gh, q2, none⟩) rfl _).trans (kept_of_below (below_drewN (Below.refl _ _) 1))
  go_region
  obtain ⟨wB, hwn⟩ : ∃ z, z = (VA.setCell ⟨gh, q2, none⟩ (.int .u8 (bits .xor .u8 (bv : Int) ((2 : Int) ^ r2 % 256)))).drew := ⟨_, rfl⟩
  rw [← hwn] at HHN HKN ⊢
  replace HH := HHN
  skip
  replace HW := hide ((unhide HW).trans ((unhide HKN).below (B := w'.heap.size) (unhide HW).size (fun b e => by omega)))
  clear HHN HKN hwn bq fq hbl HEB HQ HRR t1 t2 hq16 hr8 hr8n
  have HR3 := hide (implReadReport_any _ (turnL (turnL FR A) C) wB (by have := OwnV.cIn (unhide HH) (cap := ch) (by rw [turnL_len, turnL_len, unhide HLN]; exact hd1) (unhide HDC); rw [turnL_len, turnL_len, unhide HLN] at this; exact this))
  rw [unhide E2, readV_not (unhide E2) (by omega)] at HR3
  unfold vReport at HR3
  go_wp2_with fail
  refine (unhide HR3).mono ?_
  rintro e wC ⟨rfl, hb⟩
  replace HW := hide (Below.step (unhide HW) hb)
  clear hb HR3
  go_wp2
  go_ret
  exact ⟨rfl, unhide HW⟩

end Go.Proofs.Ytkjikjeecjendaa
