/- FnYard: whatever the bytes, along drawn ops of a drawn yard boxes are neither made nor lost, each is found where it stands, and as many are reshuffled as stood above. Written by wip/mkfya.py. -/
import Derived.Test.YtjllilmiloippaaYdX
import Derived.Deep.RegionHeld3
import Derived.Deep.DeepCutAuto
import Derived.Deep.Cut
namespace Go.Proofs.Ytjllilmiloippaa
open Go.RowKit

theorem recs_at {w : World} {ao : Option Addr} {m cap : Nat} {L : List YardOpT} (h : RYardOp w (.slice ao m cap) L) : ∀ i, i < L.length → ∃ b o, ao = some ⟨b, o, none⟩ ∧ ∀ j, j < 3 → w.cell? ⟨b, o + (i * 3 + j), none⟩ = some (eYardOp (L.getD i default) j) := by
  obtain ⟨ao', cap', e, _, _, hc⟩ := h
  simp only [Value.slice.injEq] at e
  obtain ⟨rfl, rfl, rfl⟩ := e
  exact hc

set_option maxRecDepth 10000 in
set_option maxHeartbeats 25600000 in
theorem fnYard_any (v : Value) (nb : Nat) (w : World) (h : BytesIn w.heap.size w v nb) :
    Calls Try.prog 3 #[v] w fun e w' => e = .returned (.bool true) ∧ Below w.heap.size w w' := by
  have HB := hide h
  obtain ⟨vao, vcap, rfl, hl, hm, _⟩ := h
  unfold maxLen at hm
  have HBIG := hide (big_any vao nb vcap w)
  cases hbig : decide ((1048576 : Int) < (nb : Int)) with
  | true =>
    rw [hbig] at HBIG
    go_enter Try.func3, Try.ntmps3
    go_wp2_with fail
    refine (unhide HBIG).mono ?_
    rintro e w' ⟨rfl, rfl⟩
    go_wp2
    go_ret
    exact ⟨rfl, Below.refl _ _⟩
  | false =>
  rw [hbig] at HBIG
  have hnb : nb ≤ 1048576 := by rw [decide_eq_false_iff_not] at hbig; omega
  have QD := hide (DrawYard_any _ nb w (unhide HB) hnb)
  clear hbig HB hl hm
  go_enter Try.func3, Try.ntmps3
  go_wp2_with fail
  refine (unhide HBIG).mono ?_
  rintro e w' ⟨rfl, rfl⟩
  clear HBIG
  go_wp2_with fail
  refine (unhide QD).mono ?_
  intro e w1 hans
  obtain ⟨H, g, k, R, bo, q, oc, M, rfl, hrr, hok, hop, hM, hb1⟩ := hans
  obtain ⟨ao, c, e, hc1, hc2⟩ := rows_cap hrr
  simp only [Value.slice.injEq] at e
  obtain ⟨rfl, rfl, rfl⟩ := e
  obtain ⟨ao, eao⟩ : ∃ z : Option Addr, z = some ⟨g, 0, none⟩ := ⟨_, rfl⟩
  rw [← eao] at hrr ⊢
  clear eao
  obtain ⟨oa, ocap, e, ho1, ho2, -⟩ := id hop
  simp only [Value.slice.injEq] at e
  obtain ⟨rfl, rfl, rfl⟩ := e
  unfold maxLen at ho2
  have HOK := hide hok
  unfold yardV
  obtain ⟨g3, eg3⟩ : ∃ z, z = w1.heap.size := ⟨_, rfl⟩
  obtain ⟨w2, ew2⟩ : ∃ z, z = w1.alloc (.cells #[.int .i64 H, .slice ao R.length R.length] 26) := ⟨_, rfl⟩
  have hA : Below w1.heap.size w1 w2 := by rw [ew2]; exact Below.alloc1 _ _
  have H3 : Hid (OwnV w2 g3 [.int .i64 H, .slice ao R.length R.length]) := by rw [ew2, eg3]; exact ownV_alloc _ _ _
  go_upto_region 4 with (fail)
  rw [← ew2, ← eg3]
  have hg31 : w1.heap.size ≤ g3 := by omega
  clear ew2 eg3
  have y0 := (unhide H3).cell (i := 0) rfl
  have y1 := (unhide H3).cell (i := 1) rfl
  obtain ⟨gn, egn⟩ : ∃ z, z = w2.heap.size := ⟨_, rfl⟩
  obtain ⟨V0, ev0⟩ : ∃ z, z = w2.alloc (.cells #[.int .i64 H, .slice ao R.length R.length] 26) := ⟨_, rfl⟩
  have hA2 : Below w2.heap.size w2 V0 := by rw [ev0]; exact Below.alloc1 _ _
  have HB : Hid (OwnV V0 gn [.int .i64 H, .slice ao R.length R.length]) := by rw [ev0, egn]; exact ownV_alloc _ _ _
  go_upto_region 5 with (fail)
  rw [← ev0, ← egn]
  have hg3n : g3 < gn := by rw [egn]; exact (unhide H3).lt
  replace H3 := hide ((unhide H3).step hA2)
  have hAA : Below w1.heap.size w1 V0 := Below.step hA hA2
  have hgn : w1.heap.size ≤ gn := by omega
  have hgw : w.heap.size ≤ gn := Nat.le_trans hb1.size hgn
  have HW := hide (Below.step hb1 hAA)
  have HYS := hide (stays_old (gn := gn) hrr hAA hgn)
  have HOS : Hid (∀ W', Kept (fun b => b = gn) V0 W' → RYardOp W' (.slice bo M.length oc) M) := fun W' k => RecsIn.below hop (hAA.trans (k.below hAA.size (fun b e => by have e : b = gn := e; omega)))
  have HKV := hide (Kept.refl (fun b => b = gn) V0)
  have HRL := hide (fun i => st_len H R M i)
  have HRO := hide (fun i => st_ok hok M i)
  have hRn := hok.n2
  clear y0 y1 egn ev0 hA hA2 hAA hrr hop hb1 QD hok hgn hc2
  have HNS : Hid (Stays gn V0 (.slice ao R.length R.length) (stY H R M 0).1) := unhide HYS
  go_wp2
  go_loopg [6] M.length (fun gm iv wr => ∃ (i : Nat) (na : Option Addr) (nc : Nat), i ≤ M.length ∧ gm = M.length - i ∧ iv = .int .i64 i ∧ Hid (Kept (fun b => b = gn) V0 wr) ∧ Hid (OwnV wr gn [.int .i64 H, .slice na R.length nc]) ∧ Hid (Stays gn wr (.slice na R.length nc) (stY H R M i).1))
  case atStart => exact ⟨0, ao, R.length, Nat.zero_le _, rfl, rfl, HKV, HB, HNS⟩
  case round =>
    clear HKV HB HNS
    obtain ⟨i, na, nc, hi, hgi, rfl, HKV, HB, HNS⟩ := hrel
    have HGI := hide hgi
    clear hgi
    generalize hw9 : wr = w2 at *
    clear hw9
    by_cases hin : i < M.length
    · skip
      have HR1 := hide (show (stY H R M (i + 1)).1 = (doY H (stY H R M i).1 (M.getD i default).1 (M.getD i default).2.1 (M.getD i default).2.2).1 from rfl)
      obtain ⟨ob, oo, x0, x1, x2, eoa, -, -, -, hgd⟩ := recYardOpAt (recs_at (unhide HOS _ (unhide HKV))) hin
      rw [unhide hgd] at HR1
      subst eoa
      have HOC : Hid (∀ W', Kept (fun b => b = gn) V0 W' → W'.cell? ⟨ob, oo + i * 3, none⟩ = some (.int .i64 x0) ∧ W'.cell? ⟨ob, oo + i * 3 + 1, none⟩ = some (.int .i64 x1) ∧ W'.cell? ⟨ob, oo + i * 3 + 2, none⟩ = some (.int .i64 x2)) := fun W' k => by
        obtain ⟨b, o, y0, y1, y2, e, c0, c1, c2, hg⟩ := recYardOpAt (recs_at (unhide HOS _ k)) hin
        simp only [Option.some.injEq, Addr.mk.injEq, and_true] at e
        obtain ⟨rfl, rfl⟩ := e
        rw [unhide hgd] at hg
        have hg := unhide hg
        simp only [Prod.mk.injEq] at hg
        obtain ⟨rfl, rfl, rfl⟩ := hg
        exact ⟨c0, c1, c2⟩
      clear hgd
      have HYO := hide (unhide HRO i)
      have hRl := unhide HRL i
      have hRl1 := unhide HRL (i + 1)
      rw [unhide HR1] at hRl1
      obtain ⟨Q, eQ⟩ : ∃ z, z = (stY H R M i).1 := ⟨_, rfl⟩
      rw [← eQ] at HR1 HYO hRl HNS hRl1
      have HLE := hide fun s (hs : s ≤ R.length) => lenY_le (unhide HYO) (k := s) (by rw [hRl]; exact hs)
      have HFL := hide (do_flen2 (unhide HYO) x0 x1 x2)
      have HOU := hide fun (e : x0 = 2) => e ▸ (fun hx => do_out2 (unhide HYO) (b := x1) (s := x2) hx : (doY H Q 2 x1 x2).2.2 = 0 → _)
      have HDO := hide (do_ok (unhide HYO) x0 x1 x2)
      have HDY := hide fun V (hV : RowsIn V (.slice na R.length nc) Q) h1 h2 => implDoYard_any H (.slice na R.length nc) Q x0 x1 x2 V hV h1 h2
      have HFB := hide fun V (hV : RowsIn V (.slice na R.length nc) Q) => implFindBox_any H (.slice na R.length nc) Q x1 V hV
      have hQ1 : Q.length ≤ 1048576 := by omega
      have hQ2 : Hid (∀ s, s < Q.length → (Q.getD s []).length ≤ 1048576) := fun s hs => by
        have h1 := (unhide HYO).low s hs
        have h2 := (unhide HYO).h2
        omega
      obtain ⟨⟨D1, D2, D3⟩, eD⟩ : ∃ D, D = doY H Q x0 x1 x2 := ⟨_, rfl⟩
      rw [← eD] at HR1 HFL HDO HDY hRl1
      have HED := hide eD
      clear eD eQ
      dsimp only at HR1 HFL HDO hRl1
      unfold yardV vYardOp at HDY
      unfold yardV at HFB
      have y0 := (unhide HB).cell (i := 0) rfl
      have y1 := (unhide HB).cell (i := 1) rfl
      have HRW := hide (unhide HNS).here
      have HQL := hide hRl
      have HDL := hide hRl1
      clear hRl hRl1
      go_wp2
      go_loopg [7, 8] R.length (fun gm bv sv wr2 => ∃ s : Nat, wr2 = w2 ∧ s ≤ R.length ∧ gm = R.length - s ∧ bv = .int .i64 (lenY Q s) ∧ sv = .int .i64 s)
      case atStart => exact ⟨0, rfl, Nat.zero_le _, rfl, rfl, rfl⟩
      case round =>
        obtain ⟨s, ew, hs, hgm, rfl, rfl⟩ := hrel
        rw [ew]
        clear ew
        have HGM := hide hgm
        clear hgm
        by_cases hsn : s < R.length
        · obtain ⟨xa, xc, ex, hx1, hx2, hrow⟩ := unhide HRW
          unfold maxLen at hx2
          simp only [Value.slice.injEq] at ex
          obtain ⟨rfl, -, rfl⟩ := ex
          obtain ⟨b, o, vr, ea, hcell, hin⟩ := hrow s (by rw [unhide HQL]; exact hsn)
          first | subst ea | (simp only [Option.some.injEq, Addr.mk.injEq, and_true] at ea; obtain ⟨rfl, rfl⟩ := ea; rw [Nat.zero_add] at hcell)
          clear hx1
          obtain ⟨ar, cr, rfl, h1, h2, -⟩ := hin
          unfold maxLen at h2
          have hl1 : lenY Q (s + 1) = lenY Q s + (Q.getD s []).length := rfl
          have hl2 := unhide HLE (s + 1) hsn
          obtain ⟨l1, el1⟩ : ∃ z, z = lenY Q (s + 1) := ⟨_, rfl⟩
          obtain ⟨l0, el0⟩ : ∃ z, z = lenY Q s := ⟨_, rfl⟩
          obtain ⟨ln, eln⟩ : ∃ z, z = (Q.getD s []).length := ⟨_, rfl⟩
          rw [← el1, ← el0, ← eln] at hl1
          rw [← el1] at hl2
          rw [← eln] at hcell h1
          rw [← el0]
          have HE1 := hide el1
          clear el1 el0 eln hrow HRW
          have hwr : IntKind.i64.wrap ((l0 : Int) + (ln : Int)) = (l1 : Int) := by rw [IntKind.wrap_i64]; omega
          go_wp2
          go_roundg (R.length - (s + 1))
          case measure => have := unhide HGM; omega
          case rel => exact ⟨s + 1, rfl, by omega, rfl, by rw [← unhide HE1]; go_num, by go_num⟩
        · obtain rfl : s = R.length := by omega
          clear hs hsn HGM
          go_upto_region 13 with (fail)
          clear HRW y0 y1
          obtain ⟨⟨f1, f2, ft⟩, ef⟩ : ∃ z, z = findV H Q x1 := ⟨_, rfl⟩
          rw [← ef] at HFB
          dsimp only at HFB
          have HEF := hide ef
          clear ef
          have HK := HKV
          have HKR := hide (Kept.refl (fun b => b = gn) w2)
          obtain ⟨wd, ewd⟩ : ∃ z, z = w2.drew := ⟨_, rfl⟩
          have hb : Below w2.heap.size w2 wd := by rw [ewd]; exact (Below.refl _ _).drew
          replace HB := hide ((unhide HB).step hb)
          replace HK := hide ((unhide HK).trans (kept_gn hb))
          replace HKR := hide ((unhide HKR).trans (kept_gn hb))
          clear hb
          have hhd := (show wd.cell? ⟨gn, 0, none⟩ = some (.int .i64 H) ∧ wd.cell? ⟨gn, 1, none⟩ = some (.slice na R.length nc) ∧ wd.cell? ⟨ob, oo + i * 3 + 1, none⟩ = some (.int .i64 x1) from ⟨(unhide HB).cell (i := 0) rfl, (unhide HB).cell (i := 1) rfl, (unhide HOC _ (unhide HK)).2.1⟩)
          rw [ewd] at hhd
          refine wp_region_held_drew (S := fun w' => w'.cell? ⟨gn, 0, none⟩ = some (.int .i64 H) ∧ w'.cell? ⟨gn, 1, none⟩ = some (.slice na R.length nc) ∧ w'.cell? ⟨ob, oo + i * 3 + 1, none⟩ = some (.int .i64 x1)) (by kernel_rfl) hhd (fun hHeld => ?_)
          clear hhd
          rw [← ewd] at hHeld ⊢
          clear ewd
          refine wpAnyH_take (i := 0) (v := ?_) rfl (by kernel_rfl) (by kernel_rfl) (by kernel_rfl) (fun _ _ _ h => h) (Or.inl ⟨by rfl, ?_⟩) (by assumption) ?_
          rotate_left
          · intro wy hSw
            obtain ⟨hS0, hS1, hS2⟩ := hSw
            go_simp
            try with_reducible rfl
          try simp only [Act.put, List.getElem_toArray, List.getElem_cons_zero, List.setIfInBounds_toArray, List.set_cons_zero, List.set_cons_succ]
          refine wpAnyH_take (i := 1) (v := ?_) rfl (by kernel_rfl) (by kernel_rfl) (by kernel_rfl) (fun _ _ _ h => h) (Or.inl ⟨by rfl, ?_⟩) (by assumption) ?_
          rotate_left
          · intro wy hSw
            obtain ⟨hS0, hS1, hS2⟩ := hSw
            go_simp
            try with_reducible rfl
          try simp only [Act.put, List.getElem_toArray, List.getElem_cons_succ, List.getElem_cons_zero, List.setIfInBounds_toArray, List.set_cons_zero, List.set_cons_succ]
          refine wpAnyH_take (i := 2) (v := ?_) rfl (by kernel_rfl) (by kernel_rfl) (by kernel_rfl) (fun _ _ _ h => h) (Or.inl ⟨by rfl, ?_⟩) (by assumption) ?_
          rotate_left
          · intro wy hSw
            obtain ⟨hS0, hS1, hS2⟩ := hSw
            go_simp
            try with_reducible rfl
          try simp only [Act.put, List.getElem_toArray, List.getElem_cons_succ, List.getElem_cons_zero, List.setIfInBounds_toArray, List.set_cons_zero, List.set_cons_succ]
          refine wpAnyH_take (i := 3) (v := ?_) rfl (by kernel_rfl) (by kernel_rfl) (by kernel_rfl) (fun _ _ _ h => h) (Or.inl ⟨by rfl, ?_⟩) (by assumption) ?_
          rotate_left
          · intro wy hSw
            obtain ⟨hS0, hS1, hS2⟩ := hSw
            go_simp
            try with_reducible rfl
          try simp only [Act.put, List.getElem_toArray, List.getElem_cons_succ, List.getElem_cons_zero, List.setIfInBounds_toArray, List.set_cons_zero, List.set_cons_succ]
          refine wpAnyH_take (i := 4) (v := ?_) rfl (by kernel_rfl) (by kernel_rfl) (by kernel_rfl) (fun _ _ _ h => h) (Or.inl ⟨by rfl, ?_⟩) (by assumption) ?_
          rotate_left
          · intro wy hSw
            obtain ⟨hS0, hS1, hS2⟩ := hSw
            go_simp
            try with_reducible rfl
          try simp only [Act.put, List.getElem_toArray, List.getElem_cons_succ, List.getElem_cons_zero, List.setIfInBounds_toArray, List.set_cons_zero, List.set_cons_succ]
          refine wpAnyH_take (i := 5) (v := ?_) rfl (by kernel_rfl) (by kernel_rfl) (by kernel_rfl) (fun _ _ _ h => h) (Or.inl ⟨by rfl, ?_⟩) (by assumption) ?_
          rotate_left
          · intro wy hSw
            obtain ⟨hS0, hS1, hS2⟩ := hSw
            go_simp
            try with_reducible rfl
          try simp only [Act.put, List.getElem_toArray, List.getElem_cons_succ, List.getElem_cons_zero, List.setIfInBounds_toArray, List.set_cons_zero, List.set_cons_succ]
          refine wpAnyH_ready (rs := [6]) (by kernel_rfl) (by simp) ?_
          refine AllReadyH.cons rfl (fun K hK => ?_) AllReadyH.nil
          go_simp
          refine (unhide HFB _ (unhide HNS _ (unhide HKR))).mono ?_
          rintro e w3 ⟨rfl, hb⟩
          replace HB := hide ((unhide HB).step hb)
          replace HK := hide ((unhide HK).trans (kept_gn hb))
          replace HKR := hide ((unhide HKR).trans (kept_gn hb))
          clear hb
          refine hK.out _ _ ⟨(unhide HB).cell (i := 0) rfl, (unhide HB).cell (i := 1) rfl, (unhide HOC _ (unhide HK)).2.1⟩ (fun hHeld => ?_)
          clear hK K
          try simp only [Act.put, List.setIfInBounds_toArray, List.set_cons_zero, List.set_cons_succ]
          refine wpAnyH_take (i := 7) (v := ?_) rfl (by kernel_rfl) (by kernel_rfl) (by kernel_rfl) (fun _ _ _ h => h) (Or.inl ⟨by rfl, ?_⟩) (by assumption) ?_
          rotate_left
          · intro wy hSw
            obtain ⟨hS0, hS1, hS2⟩ := hSw
            go_simp
            try with_reducible rfl
          try simp only [Act.put, List.getElem_toArray, List.getElem_cons_succ, List.getElem_cons_zero, List.setIfInBounds_toArray, List.set_cons_zero, List.set_cons_succ]
          refine wpAnyH_take (i := 8) (v := ?_) rfl (by kernel_rfl) (by kernel_rfl) (by kernel_rfl) (fun _ _ _ h => h) (Or.inl ⟨by rfl, ?_⟩) (by assumption) ?_
          rotate_left
          · intro wy hSw
            obtain ⟨hS0, hS1, hS2⟩ := hSw
            go_simp
            try with_reducible rfl
          try simp only [Act.put, List.getElem_toArray, List.getElem_cons_succ, List.getElem_cons_zero, List.setIfInBounds_toArray, List.set_cons_zero, List.set_cons_succ]
          refine wpAnyH_take (i := 9) (v := ?_) rfl (by kernel_rfl) (by kernel_rfl) (by kernel_rfl) (fun _ _ _ h => h) (Or.inl ⟨by rfl, ?_⟩) (by assumption) ?_
          rotate_left
          · intro wy hSw
            obtain ⟨hS0, hS1, hS2⟩ := hSw
            go_simp
            try with_reducible rfl
          try simp only [Act.put, List.getElem_toArray, List.getElem_cons_succ, List.getElem_cons_zero, List.setIfInBounds_toArray, List.set_cons_zero, List.set_cons_succ]
          refine wpAnyH_take (i := 10) (v := ?_) rfl (by kernel_rfl) (by kernel_rfl) (by kernel_rfl) (fun _ _ _ h => h) (Or.inl ⟨by rfl, ?_⟩) (by assumption) ?_
          rotate_left
          · intro wy hSw
            obtain ⟨hS0, hS1, hS2⟩ := hSw
            go_simp
            try with_reducible rfl
          try simp only [Act.put, List.getElem_toArray, List.getElem_cons_succ, List.getElem_cons_zero, List.setIfInBounds_toArray, List.set_cons_zero, List.set_cons_succ]
          refine wpAnyH_take (i := 11) (v := ?_) rfl (by kernel_rfl) (by kernel_rfl) (by kernel_rfl) (fun _ _ _ h => h) (Or.inl ⟨by rfl, ?_⟩) (by assumption) ?_
          rotate_left
          · intro wy hSw
            obtain ⟨hS0, hS1, hS2⟩ := hSw
            go_simp
            try with_reducible rfl
          try simp only [Act.put, List.getElem_toArray, List.getElem_cons_succ, List.getElem_cons_zero, List.setIfInBounds_toArray, List.set_cons_zero, List.set_cons_succ]
          refine wpAnyH_take (i := 12) (v := ?_) rfl (by kernel_rfl) (by kernel_rfl) (by kernel_rfl) (fun _ _ _ h => h) (Or.inl ⟨by rfl, ?_⟩) (by assumption) ?_
          rotate_left
          · intro wy hSw
            obtain ⟨hS0, hS1, hS2⟩ := hSw
            go_simp
            try with_reducible rfl
          try simp only [Act.put, List.getElem_toArray, List.getElem_cons_succ, List.getElem_cons_zero, List.setIfInBounds_toArray, List.set_cons_zero, List.set_cons_succ]
          refine wpAnyH_take (i := 13) (v := ?_) rfl (by kernel_rfl) (by kernel_rfl) (by kernel_rfl) (fun _ _ _ h => h) (Or.inl ⟨by rfl, ?_⟩) (by assumption) ?_
          rotate_left
          · intro wy hSw
            obtain ⟨hS0, hS1, hS2⟩ := hSw
            go_simp
            try with_reducible rfl
          try simp only [Act.put, List.getElem_toArray, List.getElem_cons_succ, List.getElem_cons_zero, List.setIfInBounds_toArray, List.set_cons_zero, List.set_cons_succ]
          refine wpAnyH_done (by kernel_rfl) ?_ _
          have HEF2 : Hid (findB Q x1 = none → f1 = -1 ∧ f2 = -1 ∧ ft = false) := fun e => by
            have h1 := unhide HEF
            rw [findV, if_pos (unhide HYO), e] at h1
            simp only [Prod.mk.injEq] at h1
            exact h1
          have HEF3 : Hid (∀ p, findB Q x1 = some p → f1 = (p.1 : Int) ∧ f2 = (p.2 : Int) ∧ ft = true) := fun p e => by
            have h1 := unhide HEF
            rw [findV, if_pos (unhide HYO), e] at h1
            simp only [Prod.mk.injEq] at h1
            exact h1
          cases hfb : findB Q x1 with
          | none =>
            obtain ⟨rfl, rfl, rfl⟩ := unhide HEF2 hfb
            have HFN := hide hfb
            clear hfb HEF HEF2 HEF3
            go_upto_region 14 with (fail)
            go_quiet (fail)
            go_upto_region 16 with (fail)
            obtain ⟨w4, ew4⟩ : ∃ z, z = w3.drewN nq := ⟨_, rfl⟩
            have hb : Below w3.heap.size w3 w4 := by rw [ew4]; exact below_drewN (Below.refl _ _) nq
            rw [← ew4]
            clear ew4
            replace HB := hide ((unhide HB).step hb)
            replace HK := hide ((unhide HK).trans (kept_gn hb))
            replace HKR := hide ((unhide HKR).trans (kept_gn hb))
            clear hb
            obtain ⟨wd, ewd⟩ : ∃ z, z = w4.drew := ⟨_, rfl⟩
            have hb : Below w4.heap.size w4 wd := by rw [ewd]; exact (Below.refl _ _).drew
            replace HB := hide ((unhide HB).step hb)
            replace HK := hide ((unhide HK).trans (kept_gn hb))
            replace HKR := hide ((unhide HKR).trans (kept_gn hb))
            clear hb
            have hhd := (show wd.cell? ⟨gn, 0, none⟩ = some (.int .i64 H) ∧ wd.cell? ⟨gn, 1, none⟩ = some (.slice na R.length nc) ∧ wd.cell? ⟨ob, oo + i * 3, none⟩ = some (.int .i64 x0) ∧ wd.cell? ⟨ob, oo + i * 3 + 1, none⟩ = some (.int .i64 x1) ∧ wd.cell? ⟨ob, oo + i * 3 + 2, none⟩ = some (.int .i64 x2) from ⟨(unhide HB).cell (i := 0) rfl, (unhide HB).cell (i := 1) rfl, (unhide HOC _ (unhide HK)).1, (unhide HOC _ (unhide HK)).2.1, (unhide HOC _ (unhide HK)).2.2⟩)
            rw [ewd] at hhd
            refine wp_region_held_drew (S := fun w' => w'.cell? ⟨gn, 0, none⟩ = some (.int .i64 H) ∧ w'.cell? ⟨gn, 1, none⟩ = some (.slice na R.length nc) ∧ w'.cell? ⟨ob, oo + i * 3, none⟩ = some (.int .i64 x0) ∧ w'.cell? ⟨ob, oo + i * 3 + 1, none⟩ = some (.int .i64 x1) ∧ w'.cell? ⟨ob, oo + i * 3 + 2, none⟩ = some (.int .i64 x2)) (by kernel_rfl) hhd (fun hHeld => ?_)
            clear hhd
            rw [← ewd] at hHeld ⊢
            clear ewd
            refine wpAnyH_take (i := 0) (v := ?_) rfl (by kernel_rfl) (by kernel_rfl) (by kernel_rfl) (fun _ _ _ h => h) (Or.inl ⟨by rfl, ?_⟩) (by assumption) ?_
            rotate_left
            · intro wy hSw
              obtain ⟨hS0, hS1, hS2, hS3, hS4⟩ := hSw
              go_simp
              try with_reducible rfl
            try simp only [Act.put, List.getElem_toArray, List.getElem_cons_zero, List.setIfInBounds_toArray, List.set_cons_zero, List.set_cons_succ]
            refine wpAnyH_take (i := 1) (v := ?_) rfl (by kernel_rfl) (by kernel_rfl) (by kernel_rfl) (fun _ _ _ h => h) (Or.inl ⟨by rfl, ?_⟩) (by assumption) ?_
            rotate_left
            · intro wy hSw
              obtain ⟨hS0, hS1, hS2, hS3, hS4⟩ := hSw
              go_simp
              try with_reducible rfl
            try simp only [Act.put, List.getElem_toArray, List.getElem_cons_succ, List.getElem_cons_zero, List.setIfInBounds_toArray, List.set_cons_zero, List.set_cons_succ]
            refine wpAnyH_take (i := 2) (v := ?_) rfl (by kernel_rfl) (by kernel_rfl) (by kernel_rfl) (fun _ _ _ h => h) (Or.inl ⟨by rfl, ?_⟩) (by assumption) ?_
            rotate_left
            · intro wy hSw
              obtain ⟨hS0, hS1, hS2, hS3, hS4⟩ := hSw
              go_simp
              try with_reducible rfl
            try simp only [Act.put, List.getElem_toArray, List.getElem_cons_succ, List.getElem_cons_zero, List.setIfInBounds_toArray, List.set_cons_zero, List.set_cons_succ]
            refine wpAnyH_take (i := 3) (v := ?_) rfl (by kernel_rfl) (by kernel_rfl) (by kernel_rfl) (fun _ _ _ h => h) (Or.inl ⟨by rfl, ?_⟩) (by assumption) ?_
            rotate_left
            · intro wy hSw
              obtain ⟨hS0, hS1, hS2, hS3, hS4⟩ := hSw
              go_simp
              try with_reducible rfl
            try simp only [Act.put, List.getElem_toArray, List.getElem_cons_succ, List.getElem_cons_zero, List.setIfInBounds_toArray, List.set_cons_zero, List.set_cons_succ]
            refine wpAnyH_take (i := 4) (v := ?_) rfl (by kernel_rfl) (by kernel_rfl) (by kernel_rfl) (fun _ _ _ h => h) (Or.inl ⟨by rfl, ?_⟩) (by assumption) ?_
            rotate_left
            · intro wy hSw
              obtain ⟨hS0, hS1, hS2, hS3, hS4⟩ := hSw
              go_simp
              try with_reducible rfl
            try simp only [Act.put, List.getElem_toArray, List.getElem_cons_succ, List.getElem_cons_zero, List.setIfInBounds_toArray, List.set_cons_zero, List.set_cons_succ]
            refine wpAnyH_ready (rs := [5, 10]) (by kernel_rfl) (by simp) ?_
            refine AllReadyH.cons rfl (fun K hK => ?_) (AllReadyH.cons rfl (fun K hK => ?_) AllReadyH.nil)
            · skip
              go_simp
              refine (unhide HDY _ (unhide HNS _ (unhide HKR)) hQ1 (unhide hQ2)).mono ?_
              intro e wc hans
              obtain ⟨gq, G, C, cap, e1, hq1, hq2, hor, hb⟩ := hans
              dsimp only at e1 hq1 hor
              have hor2 := ownU_of hor hq1 hq2 rfl
              rw [unhide HDL] at e1 hor2
              subst e1
              unfold yardV
              have hgB := (unhide HB).lt
              obtain ⟨Bq, eBq⟩ : ∃ z, z = wd.heap.size := ⟨_, rfl⟩
              obtain ⟨Uq, eUq⟩ : ∃ z, z = wc.heap.size := ⟨_, rfl⟩
              rw [← eBq] at hgB
              rw [← eBq, ← eUq] at hor2
              have HOR := hide hor2
              have hUw : Uq ≤ wc.heap.size := by omega
              replace HB := hide ((unhide HB).step hb)
              replace HK := hide ((unhide HK).trans (kept_gn hb))
              replace HKR := hide ((unhide HKR).trans (kept_gn hb))
              clear hb hor hor2 hq1 hq2 eBq eUq
              refine hK.out _ _ ⟨(unhide HB).cell (i := 0) rfl, (unhide HB).cell (i := 1) rfl, (unhide HOC _ (unhide HK)).1, (unhide HOC _ (unhide HK)).2.1, (unhide HOC _ (unhide HK)).2.2⟩ (fun hHeld => ?_)
              clear hK K
              try simp only [Act.put, List.setIfInBounds_toArray, List.set_cons_zero, List.set_cons_succ]
              refine wpAnyH_take (i := 6) (v := ?_) rfl (by kernel_rfl) (by kernel_rfl) (by kernel_rfl) (fun _ _ _ h => h) (Or.inl ⟨by rfl, ?_⟩) (by assumption) ?_
              rotate_left
              · intro wy hSw
                obtain ⟨hS0, hS1, hS2, hS3, hS4⟩ := hSw
                go_simp
                try with_reducible rfl
              try simp only [Act.put, List.getElem_toArray, List.getElem_cons_succ, List.getElem_cons_zero, List.setIfInBounds_toArray, List.set_cons_zero, List.set_cons_succ]
              refine wpAnyH_take (i := 7) (v := ?_) rfl (by kernel_rfl) (by kernel_rfl) (by kernel_rfl) (fun _ _ _ h => h) (Or.inl ⟨by rfl, ?_⟩) (by assumption) ?_
              rotate_left
              · intro wy hSw
                obtain ⟨hS0, hS1, hS2, hS3, hS4⟩ := hSw
                go_simp
                try with_reducible rfl
              try simp only [Act.put, List.getElem_toArray, List.getElem_cons_succ, List.getElem_cons_zero, List.setIfInBounds_toArray, List.set_cons_zero, List.set_cons_succ]
              refine wpAnyH_take (i := 8) (v := ?_) rfl (by kernel_rfl) (by kernel_rfl) (by kernel_rfl) (fun _ _ _ h => h) (Or.inl ⟨by rfl, ?_⟩) (by assumption) ?_
              rotate_left
              · intro wy hSw
                obtain ⟨hS0, hS1, hS2, hS3, hS4⟩ := hSw
                go_simp
                try with_reducible rfl
              try simp only [Act.put, List.getElem_toArray, List.getElem_cons_succ, List.getElem_cons_zero, List.setIfInBounds_toArray, List.set_cons_zero, List.set_cons_succ]
              refine wpAnyH_take (i := 9) (v := ?_) rfl (by kernel_rfl) (by kernel_rfl) (by kernel_rfl) (fun _ _ _ h => h) (Or.inl ⟨by rfl, ?_⟩) (by assumption) ?_
              rotate_left
              · intro wy hSw
                obtain ⟨hS0, hS1, hS2, hS3, hS4⟩ := hSw
                go_simp
                try with_reducible rfl
              try simp only [Act.put, List.getElem_toArray, List.getElem_cons_succ, List.getElem_cons_zero, List.setIfInBounds_toArray, List.set_cons_zero, List.set_cons_succ]
              refine wpAnyH_ready (rs := [10]) (by kernel_rfl) (by simp) ?_
              refine AllReadyH.cons rfl (fun K hK => ?_) AllReadyH.nil
              go_simp
              obtain ⟨gx, egx⟩ : ∃ z, z = wc.heap.size := ⟨_, rfl⟩
              obtain ⟨wa, ew⟩ : ∃ z, z = wc.alloc (.cells #[.int .i64 0, .slice none 0 0] 26) := ⟨_, rfl⟩
              have hb : Below wc.heap.size wc wa := by rw [ew]; exact Below.alloc1 _ _
              have HX : Hid (OwnV wa gx [.int .i64 0, .slice none 0 0]) := by rw [ew, egx]; exact ownV_alloc _ _ _
              have hgx : gn < gx := by rw [egx]; exact (unhide HB).lt
              have hgV : V0.heap.size ≤ gx := by rw [egx]; exact (unhide HK).size
              have hg2 : w2.heap.size ≤ gx := by rw [egx]; exact (unhide HKR).size
              rw [← ew, ← egx]
              have hUg : Uq ≤ gx := by omega
              replace HB := hide ((unhide HB).step hb)
              replace HK := hide ((unhide HK).trans (kept_gn hb))
              replace HKR := hide ((unhide HKR).trans (kept_gn hb))
              replace HOR := hide ((unhide HOR).below hb)
              clear hb ew egx
              refine hK.out _ _ ⟨(unhide HB).cell (i := 0) rfl, (unhide HB).cell (i := 1) rfl, (unhide HOC _ (unhide HK)).1, (unhide HOC _ (unhide HK)).2.1, (unhide HOC _ (unhide HK)).2.2⟩ (fun hHeld => ?_)
              clear hK K
              try simp only [Act.put, List.setIfInBounds_toArray, List.set_cons_zero, List.set_cons_succ]
              refine wpAnyH_ready (rs := [11]) (by kernel_rfl) (by simp) ?_
              refine AllReadyH.cons rfl (fun K hK => ?_) AllReadyH.nil
              have rf0 := (unhide HX).frozen 0
              have r0 := (unhide HX).cell (i := 0) rfl
              have rf1 := (unhide HX).frozen 1
              have r1 := (unhide HX).cell (i := 1) rfl
              have HX2 := hide (((unhide HX).set 0 (.int .i64 H) (by simp)).set 1 (.slice (some ⟨gq, 0, none⟩) R.length cap) (by simp))
              have hKS : Kept (fun b => b = gx) wa ((wa.setCell ⟨gx, 0, none⟩ (.int .i64 H)).setCell ⟨gx, 1, none⟩ (.slice (some ⟨gq, 0, none⟩) R.length cap)) := ((Kept.refl (fun b => b = gx) _).setCell (p := ⟨gx, 0, none⟩) rfl _).setCell (p := ⟨gx, 1, none⟩) rfl _
              replace HB := hide ((unhide HB).kept hKS (fun e => by have e : gn = gx := e; omega))
              replace HK := hide ((unhide HK).own hKS (fun b e => by have e : b = gx := e; omega))
              replace HKR := hide ((unhide HKR).own hKS (fun b e => by have e : b = gx := e; omega))
              replace HOR := hide ((unhide HOR).kept hKS (fun b h1 h2 e => by have e : b = gx := e; omega))
              clear hKS
              go_simp
              clear rf0 r0 rf1 r1 HX
              refine hK.out _ _ ⟨(unhide HB).cell (i := 0) rfl, (unhide HB).cell (i := 1) rfl, (unhide HOC _ (unhide HK)).1, (unhide HOC _ (unhide HK)).2.1, (unhide HOC _ (unhide HK)).2.2⟩ (fun hHeld => ?_)
              clear hK K
              try simp only [Act.put, List.setIfInBounds_toArray, List.set_cons_zero, List.set_cons_succ]
              refine wpAnyH_take (i := 12) (v := ?_) rfl (by kernel_rfl) (by kernel_rfl) (by kernel_rfl) (fun _ _ _ h => h) (Or.inl ⟨by rfl, ?_⟩) (by assumption) ?_
              rotate_left
              · intro wy hSw
                obtain ⟨hS0, hS1, hS2, hS3, hS4⟩ := hSw
                go_simp
                try with_reducible rfl
              try simp only [Act.put, List.getElem_toArray, List.getElem_cons_succ, List.getElem_cons_zero, List.setIfInBounds_toArray, List.set_cons_zero, List.set_cons_succ]
              refine wpAnyH_take (i := 13) (v := ?_) rfl (by kernel_rfl) (by kernel_rfl) (by kernel_rfl) (fun _ _ _ h => h) (Or.inl ⟨by rfl, ?_⟩) (by assumption) ?_
              rotate_left
              · intro wy hSw
                obtain ⟨hS0, hS1, hS2, hS3, hS4⟩ := hSw
                go_simp
                try with_reducible rfl
              try simp only [Act.put, List.getElem_toArray, List.getElem_cons_succ, List.getElem_cons_zero, List.setIfInBounds_toArray, List.set_cons_zero, List.set_cons_succ]
              refine wpAnyH_done (by kernel_rfl) ?_ _
              have HX := HX2
              clear HX2
              obtain ⟨w5, ew5⟩ : ∃ z, z = (wa.setCell ⟨gx, 0, none⟩ (.int .i64 H)).setCell ⟨gx, 1, none⟩ (.slice (some ⟨gq, 0, none⟩) R.length cap) := ⟨_, rfl⟩
              rw [← ew5] at HB HK HKR HOR HX ⊢
              clear ew5 HDY HFB
              have HYK := hide fun V (hV : RowsIn V (.slice (some ⟨gq, 0, none⟩) R.length cap) D1) => implYardOk_any H (.slice (some ⟨gq, 0, none⟩) R.length cap) D1 V hV
              have hyb : yardB H D1 = true := decide_eq_true (unhide HDO)
              rw [hyb] at HYK
              unfold yardV at HYK
              go_upto_region 17 with (fail)
              have q0 := (unhide HX).cell (i := 0) rfl
              have q1 := (unhide HX).cell (i := 1) rfl
              go_wp2_with fail
              refine (unhide HYK _ (unhide HOR).inn).mono ?_
              rintro e w6 ⟨rfl, hb⟩
              replace HB := hide ((unhide HB).step hb)
              replace HK := hide ((unhide HK).trans (kept_gn hb))
              replace HKR := hide ((unhide HKR).trans (kept_gn hb))
              replace HX := hide ((unhide HX).step hb)
              replace HOR := hide ((unhide HOR).below hb)
              clear hb q0 q1 HYK hyb
              have q0 := (unhide HX).cell (i := 0) rfl
              have q1 := (unhide HX).cell (i := 1) rfl
              have HLQ := HLE
              clear HLE
              have HLE := hide fun s (hs : s ≤ R.length) => lenY_le (unhide HDO) (k := s) (by rw [unhide HDL]; exact hs)
              have HRW := hide (unhide HOR).inn
              go_wp2
              go_loopg [15, 16] R.length (fun gm bv sv wr2 => ∃ s : Nat, wr2 = w6 ∧ s ≤ R.length ∧ gm = R.length - s ∧ bv = .int .i64 (lenY D1 s) ∧ sv = .int .i64 s)
              case atStart => exact ⟨0, rfl, Nat.zero_le _, rfl, rfl, rfl⟩
              case round =>
                obtain ⟨s, ew, hs, hgm, rfl, rfl⟩ := hrel
                rw [ew]
                clear ew
                have HGM := hide hgm
                clear hgm
                by_cases hsn : s < R.length
                · obtain ⟨xa, xc, ex, hx1, hx2, hrow⟩ := unhide HRW
                  unfold maxLen at hx2
                  simp only [Value.slice.injEq] at ex
                  obtain ⟨rfl, -, rfl⟩ := ex
                  obtain ⟨b, o, vr, ea, hcell, hin⟩ := hrow s (by rw [unhide HDL]; exact hsn)
                  first | subst ea | (simp only [Option.some.injEq, Addr.mk.injEq, and_true] at ea; obtain ⟨rfl, rfl⟩ := ea; rw [Nat.zero_add] at hcell)
                  clear hx1
                  obtain ⟨ar, cr, rfl, h1, h2, -⟩ := hin
                  unfold maxLen at h2
                  have hl1 : lenY D1 (s + 1) = lenY D1 s + (D1.getD s []).length := rfl
                  have hl2 := unhide HLE (s + 1) hsn
                  obtain ⟨l1, el1⟩ : ∃ z, z = lenY D1 (s + 1) := ⟨_, rfl⟩
                  obtain ⟨l0, el0⟩ : ∃ z, z = lenY D1 s := ⟨_, rfl⟩
                  obtain ⟨ln, eln⟩ : ∃ z, z = (D1.getD s []).length := ⟨_, rfl⟩
                  rw [← el1, ← el0, ← eln] at hl1
                  rw [← el1] at hl2
                  rw [← eln] at hcell h1
                  rw [← el0]
                  have HE1 := hide el1
                  clear el1 el0 eln hrow HRW
                  have hwr : IntKind.i64.wrap ((l0 : Int) + (ln : Int)) = (l1 : Int) := by rw [IntKind.wrap_i64]; omega
                  go_wp2
                  go_roundg (R.length - (s + 1))
                  case measure => have := unhide HGM; omega
                  case rel => exact ⟨s + 1, rfl, by omega, rfl, by rw [← unhide HE1]; go_num, by go_num⟩
                · obtain rfl : s = R.length := by omega
                  clear hs hsn HGM
                  go_upto_region 25 with (fail)
                  clear HRW
                  have hq72 := unhide HLQ R.length (Nat.le_refl _)
                  have hd72 := unhide HLE R.length (Nat.le_refl _)
                  have e1 : lenY Q R.length = Q.flatten.length := by rw [← unhide HQL]; exact lenY_all Q
                  have e2 : lenY D1 R.length = D1.flatten.length := by rw [← unhide HDL]; exact lenY_all D1
                  have hfl := unhide HFL
                  rw [← e1, ← e2] at hfl
                  obtain ⟨bq, ebq⟩ : ∃ z, z = lenY Q R.length := ⟨_, rfl⟩
                  obtain ⟨bd, ebd⟩ : ∃ z, z = lenY D1 R.length := ⟨_, rfl⟩
                  rw [← ebq] at hfl hq72 ⊢
                  rw [← ebd] at hfl hd72 ⊢
                  clear e1 e2 ebq ebd
                  have c0 := (unhide HOC _ (unhide HK)).1
                  have b1 := (unhide HB).cell (i := 1) rfl
                  by_cases h0 : D3 = 0
                  case neg =>
                    have g0 : (D3 == 0) = false := by simp [h0]
                    have hbb : bd = bq := by
                      rw [if_neg (fun e => h0 e.1), if_neg (fun e => h0 e.1)] at hfl
                      omega
                    subst hbb
                    clear hfl
                    have hne : ((bd : Int) != (bd : Int)) = false := by simp
                    go_upto_region 33 with (fail)
                    clear q0 q1 c0 b1
                    have q0 := (unhide HX).cell (i := 0) rfl
                    have q1 := (unhide HX).cell (i := 1) rfl
                    have b0 := (unhide HB).cell (i := 0) rfl
                    have b1 := (unhide HB).cell (i := 1) rfl
                    have f0 := (unhide HB).frozen 0
                    have f1 := (unhide HB).frozen 1
                    obtain ⟨w8, ew8⟩ : ∃ z, z = (w6.setCell ⟨gn, 0, none⟩ (.int .i64 H)).setCell ⟨gn, 1, none⟩ (.slice (some ⟨gq, 0, none⟩) R.length cap) := ⟨_, rfl⟩
                    have hKS : Kept (fun b => b = gn) w6 w8 := by rw [ew8]; exact ((Kept.refl (fun b => b = gn) _).setCell (p := ⟨gn, 0, none⟩) rfl _).setCell (p := ⟨gn, 1, none⟩) rfl _
                    have HB8 : Hid (OwnV w8 gn [.int .i64 H, .slice (some ⟨gq, 0, none⟩) R.length cap]) := by show OwnV _ _ _; rw [ew8]; exact ((unhide HB).set 0 _ (by simp)).set 1 _ (by simp)
                    have HK8 := hide ((unhide HK).trans hKS)
                    have HO8 := hide ((unhide HOR).kept hKS (fun b h1 h2 e => by have e : b = gn := e; omega))
                    clear hKS HK HKR HOR
                    have HE8 := hide ew8
                    clear ew8
                    go_wp2
                    go_roundg (M.length - (i + 1))
                    case measure => have := unhide HGI; omega
                    case rel =>
                      rw [← unhide HE8]
                      exact ⟨i + 1, _, _, by omega, rfl, by go_num, HK8, HB8, by show Stays gn _ _ _; rw [unhide HR1]; exact fun W' k => ((unhide HO8).kept k (fun b h1 h2 e => by have e : b = gn := e; omega)).inn⟩
                  subst h0
                  by_cases hk1 : x0 = 1
                  case pos =>
                    subst hk1
                    have hbb : bd = bq + 1 := by
                      rw [if_pos ⟨rfl, rfl⟩, if_neg (fun e => absurd e.2 (by decide))] at hfl
                      omega
                    subst hbb
                    clear hfl
                    have hwr : IntKind.i64.wrap ((bq : Int) + 1) = ((bq + 1 : Nat) : Int) := by rw [IntKind.wrap_i64]; omega
                    have hne : (((bq + 1 : Nat) : Int) != ((bq + 1 : Nat) : Int)) = false := by simp
                    go_upto_region 33 with (fail)
                    clear q0 q1 c0 b1
                    have q0 := (unhide HX).cell (i := 0) rfl
                    have q1 := (unhide HX).cell (i := 1) rfl
                    have b0 := (unhide HB).cell (i := 0) rfl
                    have b1 := (unhide HB).cell (i := 1) rfl
                    have f0 := (unhide HB).frozen 0
                    have f1 := (unhide HB).frozen 1
                    obtain ⟨w8, ew8⟩ : ∃ z, z = (w6.setCell ⟨gn, 0, none⟩ (.int .i64 H)).setCell ⟨gn, 1, none⟩ (.slice (some ⟨gq, 0, none⟩) R.length cap) := ⟨_, rfl⟩
                    have hKS : Kept (fun b => b = gn) w6 w8 := by rw [ew8]; exact ((Kept.refl (fun b => b = gn) _).setCell (p := ⟨gn, 0, none⟩) rfl _).setCell (p := ⟨gn, 1, none⟩) rfl _
                    have HB8 : Hid (OwnV w8 gn [.int .i64 H, .slice (some ⟨gq, 0, none⟩) R.length cap]) := by show OwnV _ _ _; rw [ew8]; exact ((unhide HB).set 0 _ (by simp)).set 1 _ (by simp)
                    have HK8 := hide ((unhide HK).trans hKS)
                    have HO8 := hide ((unhide HOR).kept hKS (fun b h1 h2 e => by have e : b = gn := e; omega))
                    clear hKS HK HKR HOR
                    have HE8 := hide ew8
                    clear ew8
                    go_wp2
                    go_roundg (M.length - (i + 1))
                    case measure => have := unhide HGI; omega
                    case rel =>
                      rw [← unhide HE8]
                      exact ⟨i + 1, _, _, by omega, rfl, by go_num, HK8, HB8, by show Stays gn _ _ _; rw [unhide HR1]; exact fun W' k => ((unhide HO8).kept k (fun b h1 h2 e => by have e : b = gn := e; omega)).inn⟩
                  have g1 : (x0 == 1) = false := by simp [hk1]
                  by_cases hk2 : x0 = 2
                  case neg =>
                    have g2 : (x0 == 2) = false := by simp [hk2]
                    have hbb : bd = bq := by
                      rw [if_neg (fun e => hk1 e.2), if_neg (fun e => hk2 e.2)] at hfl
                      omega
                    subst hbb
                    clear hfl
                    have hne : ((bd : Int) != (bd : Int)) = false := by simp
                    go_upto_region 33 with (fail)
                    clear q0 q1 c0 b1
                    have q0 := (unhide HX).cell (i := 0) rfl
                    have q1 := (unhide HX).cell (i := 1) rfl
                    have b0 := (unhide HB).cell (i := 0) rfl
                    have b1 := (unhide HB).cell (i := 1) rfl
                    have f0 := (unhide HB).frozen 0
                    have f1 := (unhide HB).frozen 1
                    obtain ⟨w8, ew8⟩ : ∃ z, z = (w6.setCell ⟨gn, 0, none⟩ (.int .i64 H)).setCell ⟨gn, 1, none⟩ (.slice (some ⟨gq, 0, none⟩) R.length cap) := ⟨_, rfl⟩
                    have hKS : Kept (fun b => b = gn) w6 w8 := by rw [ew8]; exact ((Kept.refl (fun b => b = gn) _).setCell (p := ⟨gn, 0, none⟩) rfl _).setCell (p := ⟨gn, 1, none⟩) rfl _
                    have HB8 : Hid (OwnV w8 gn [.int .i64 H, .slice (some ⟨gq, 0, none⟩) R.length cap]) := by show OwnV _ _ _; rw [ew8]; exact ((unhide HB).set 0 _ (by simp)).set 1 _ (by simp)
                    have HK8 := hide ((unhide HK).trans hKS)
                    have HO8 := hide ((unhide HOR).kept hKS (fun b h1 h2 e => by have e : b = gn := e; omega))
                    clear hKS HK HKR HOR
                    have HE8 := hide ew8
                    clear ew8
                    go_wp2
                    go_roundg (M.length - (i + 1))
                    case measure => have := unhide HGI; omega
                    case rel =>
                      rw [← unhide HE8]
                      exact ⟨i + 1, _, _, by omega, rfl, by go_num, HK8, HB8, by show Stays gn _ _ _; rw [unhide HR1]; exact fun W' k => ((unhide HO8).kept k (fun b h1 h2 e => by have e : b = gn := e; omega)).inn⟩
                  subst hk2
                  clear hk1 g1
                  have hbb : bq = bd + 1 := by
                    rw [if_neg (fun e => absurd e.2 (by decide)), if_pos ⟨rfl, rfl⟩] at hfl
                    omega
                  obtain ⟨pq, hp1, hp2⟩ := unhide HOU rfl (by rw [← unhide HED])
                  rw [← unhide HED] at hp2
                  dsimp only at hp2
                  rw [unhide HFN] at hp1
                  cases hp1
            · skip
              go_simp
              obtain ⟨gx, egx⟩ : ∃ z, z = wd.heap.size := ⟨_, rfl⟩
              obtain ⟨wa, ew⟩ : ∃ z, z = wd.alloc (.cells #[.int .i64 0, .slice none 0 0] 26) := ⟨_, rfl⟩
              have hb : Below wd.heap.size wd wa := by rw [ew]; exact Below.alloc1 _ _
              have HX : Hid (OwnV wa gx [.int .i64 0, .slice none 0 0]) := by rw [ew, egx]; exact ownV_alloc _ _ _
              have hgx : gn < gx := by rw [egx]; exact (unhide HB).lt
              have hgV : V0.heap.size ≤ gx := by rw [egx]; exact (unhide HK).size
              have hg2 : w2.heap.size ≤ gx := by rw [egx]; exact (unhide HKR).size
              rw [← ew, ← egx]
              replace HB := hide ((unhide HB).step hb)
              replace HK := hide ((unhide HK).trans (kept_gn hb))
              replace HKR := hide ((unhide HKR).trans (kept_gn hb))
              clear hb ew egx
              refine hK.out _ _ ⟨(unhide HB).cell (i := 0) rfl, (unhide HB).cell (i := 1) rfl, (unhide HOC _ (unhide HK)).1, (unhide HOC _ (unhide HK)).2.1, (unhide HOC _ (unhide HK)).2.2⟩ (fun hHeld => ?_)
              clear hK K
              try simp only [Act.put, List.setIfInBounds_toArray, List.set_cons_zero, List.set_cons_succ]
              refine wpAnyH_ready (rs := [5]) (by kernel_rfl) (by simp) ?_
              refine AllReadyH.cons rfl (fun K hK => ?_) AllReadyH.nil
              go_simp
              refine (unhide HDY _ (unhide HNS _ (unhide HKR)) hQ1 (unhide hQ2)).mono ?_
              intro e wc hans
              obtain ⟨gq, G, C, cap, e1, hq1, hq2, hor, hb⟩ := hans
              dsimp only at e1 hq1 hor
              have hor2 := ownU_of hor hq1 hq2 rfl
              rw [unhide HDL] at e1 hor2
              subst e1
              unfold yardV
              have hgB := (unhide HB).lt
              obtain ⟨Bq, eBq⟩ : ∃ z, z = wa.heap.size := ⟨_, rfl⟩
              obtain ⟨Uq, eUq⟩ : ∃ z, z = wc.heap.size := ⟨_, rfl⟩
              rw [← eBq] at hgB
              rw [← eBq, ← eUq] at hor2
              have HOR := hide hor2
              have hgxB : gx < Bq := by rw [eBq]; exact (unhide HX).lt
              replace HB := hide ((unhide HB).step hb)
              replace HK := hide ((unhide HK).trans (kept_gn hb))
              replace HKR := hide ((unhide HKR).trans (kept_gn hb))
              replace HX := hide ((unhide HX).step hb)
              clear hb hor hor2 hq1 hq2 eBq eUq
              refine hK.out _ _ ⟨(unhide HB).cell (i := 0) rfl, (unhide HB).cell (i := 1) rfl, (unhide HOC _ (unhide HK)).1, (unhide HOC _ (unhide HK)).2.1, (unhide HOC _ (unhide HK)).2.2⟩ (fun hHeld => ?_)
              clear hK K
              try simp only [Act.put, List.setIfInBounds_toArray, List.set_cons_zero, List.set_cons_succ]
              refine wpAnyH_take (i := 6) (v := ?_) rfl (by kernel_rfl) (by kernel_rfl) (by kernel_rfl) (fun _ _ _ h => h) (Or.inl ⟨by rfl, ?_⟩) (by assumption) ?_
              rotate_left
              · intro wy hSw
                obtain ⟨hS0, hS1, hS2, hS3, hS4⟩ := hSw
                go_simp
                try with_reducible rfl
              try simp only [Act.put, List.getElem_toArray, List.getElem_cons_succ, List.getElem_cons_zero, List.setIfInBounds_toArray, List.set_cons_zero, List.set_cons_succ]
              refine wpAnyH_take (i := 7) (v := ?_) rfl (by kernel_rfl) (by kernel_rfl) (by kernel_rfl) (fun _ _ _ h => h) (Or.inl ⟨by rfl, ?_⟩) (by assumption) ?_
              rotate_left
              · intro wy hSw
                obtain ⟨hS0, hS1, hS2, hS3, hS4⟩ := hSw
                go_simp
                try with_reducible rfl
              try simp only [Act.put, List.getElem_toArray, List.getElem_cons_succ, List.getElem_cons_zero, List.setIfInBounds_toArray, List.set_cons_zero, List.set_cons_succ]
              refine wpAnyH_take (i := 8) (v := ?_) rfl (by kernel_rfl) (by kernel_rfl) (by kernel_rfl) (fun _ _ _ h => h) (Or.inl ⟨by rfl, ?_⟩) (by assumption) ?_
              rotate_left
              · intro wy hSw
                obtain ⟨hS0, hS1, hS2, hS3, hS4⟩ := hSw
                go_simp
                try with_reducible rfl
              try simp only [Act.put, List.getElem_toArray, List.getElem_cons_succ, List.getElem_cons_zero, List.setIfInBounds_toArray, List.set_cons_zero, List.set_cons_succ]
              refine wpAnyH_take (i := 9) (v := ?_) rfl (by kernel_rfl) (by kernel_rfl) (by kernel_rfl) (fun _ _ _ h => h) (Or.inl ⟨by rfl, ?_⟩) (by assumption) ?_
              rotate_left
              · intro wy hSw
                obtain ⟨hS0, hS1, hS2, hS3, hS4⟩ := hSw
                go_simp
                try with_reducible rfl
              try simp only [Act.put, List.getElem_toArray, List.getElem_cons_succ, List.getElem_cons_zero, List.setIfInBounds_toArray, List.set_cons_zero, List.set_cons_succ]
              refine wpAnyH_ready (rs := [11]) (by kernel_rfl) (by simp) ?_
              refine AllReadyH.cons rfl (fun K hK => ?_) AllReadyH.nil
              have rf0 := (unhide HX).frozen 0
              have r0 := (unhide HX).cell (i := 0) rfl
              have rf1 := (unhide HX).frozen 1
              have r1 := (unhide HX).cell (i := 1) rfl
              have HX2 := hide (((unhide HX).set 0 (.int .i64 H) (by simp)).set 1 (.slice (some ⟨gq, 0, none⟩) R.length cap) (by simp))
              have hKS : Kept (fun b => b = gx) wc ((wc.setCell ⟨gx, 0, none⟩ (.int .i64 H)).setCell ⟨gx, 1, none⟩ (.slice (some ⟨gq, 0, none⟩) R.length cap)) := ((Kept.refl (fun b => b = gx) _).setCell (p := ⟨gx, 0, none⟩) rfl _).setCell (p := ⟨gx, 1, none⟩) rfl _
              replace HB := hide ((unhide HB).kept hKS (fun e => by have e : gn = gx := e; omega))
              replace HK := hide ((unhide HK).own hKS (fun b e => by have e : b = gx := e; omega))
              replace HKR := hide ((unhide HKR).own hKS (fun b e => by have e : b = gx := e; omega))
              replace HOR := hide ((unhide HOR).kept hKS (fun b h1 h2 e => by have e : b = gx := e; omega))
              clear hKS
              go_simp
              clear rf0 r0 rf1 r1 HX
              refine hK.out _ _ ⟨(unhide HB).cell (i := 0) rfl, (unhide HB).cell (i := 1) rfl, (unhide HOC _ (unhide HK)).1, (unhide HOC _ (unhide HK)).2.1, (unhide HOC _ (unhide HK)).2.2⟩ (fun hHeld => ?_)
              clear hK K
              try simp only [Act.put, List.setIfInBounds_toArray, List.set_cons_zero, List.set_cons_succ]
              refine wpAnyH_take (i := 12) (v := ?_) rfl (by kernel_rfl) (by kernel_rfl) (by kernel_rfl) (fun _ _ _ h => h) (Or.inl ⟨by rfl, ?_⟩) (by assumption) ?_
              rotate_left
              · intro wy hSw
                obtain ⟨hS0, hS1, hS2, hS3, hS4⟩ := hSw
                go_simp
                try with_reducible rfl
              try simp only [Act.put, List.getElem_toArray, List.getElem_cons_succ, List.getElem_cons_zero, List.setIfInBounds_toArray, List.set_cons_zero, List.set_cons_succ]
              refine wpAnyH_take (i := 13) (v := ?_) rfl (by kernel_rfl) (by kernel_rfl) (by kernel_rfl) (fun _ _ _ h => h) (Or.inl ⟨by rfl, ?_⟩) (by assumption) ?_
              rotate_left
              · intro wy hSw
                obtain ⟨hS0, hS1, hS2, hS3, hS4⟩ := hSw
                go_simp
                try with_reducible rfl
              try simp only [Act.put, List.getElem_toArray, List.getElem_cons_succ, List.getElem_cons_zero, List.setIfInBounds_toArray, List.set_cons_zero, List.set_cons_succ]
              refine wpAnyH_done (by kernel_rfl) ?_ _
              have HX := HX2
              clear HX2
              obtain ⟨w5, ew5⟩ : ∃ z, z = (wc.setCell ⟨gx, 0, none⟩ (.int .i64 H)).setCell ⟨gx, 1, none⟩ (.slice (some ⟨gq, 0, none⟩) R.length cap) := ⟨_, rfl⟩
              rw [← ew5] at HB HK HKR HOR HX ⊢
              clear ew5 HDY HFB
              have HYK := hide fun V (hV : RowsIn V (.slice (some ⟨gq, 0, none⟩) R.length cap) D1) => implYardOk_any H (.slice (some ⟨gq, 0, none⟩) R.length cap) D1 V hV
              have hyb : yardB H D1 = true := decide_eq_true (unhide HDO)
              rw [hyb] at HYK
              unfold yardV at HYK
              go_upto_region 17 with (fail)
              have q0 := (unhide HX).cell (i := 0) rfl
              have q1 := (unhide HX).cell (i := 1) rfl
              go_wp2_with fail
              refine (unhide HYK _ (unhide HOR).inn).mono ?_
              rintro e w6 ⟨rfl, hb⟩
              replace HB := hide ((unhide HB).step hb)
              replace HK := hide ((unhide HK).trans (kept_gn hb))
              replace HKR := hide ((unhide HKR).trans (kept_gn hb))
              replace HX := hide ((unhide HX).step hb)
              replace HOR := hide ((unhide HOR).below hb)
              clear hb q0 q1 HYK hyb
              have q0 := (unhide HX).cell (i := 0) rfl
              have q1 := (unhide HX).cell (i := 1) rfl
              have HLQ := HLE
              clear HLE
              have HLE := hide fun s (hs : s ≤ R.length) => lenY_le (unhide HDO) (k := s) (by rw [unhide HDL]; exact hs)
              have HRW := hide (unhide HOR).inn
              go_wp2
              go_loopg [15, 16] R.length (fun gm bv sv wr2 => ∃ s : Nat, wr2 = w6 ∧ s ≤ R.length ∧ gm = R.length - s ∧ bv = .int .i64 (lenY D1 s) ∧ sv = .int .i64 s)
              case atStart => exact ⟨0, rfl, Nat.zero_le _, rfl, rfl, rfl⟩
              case round =>
                obtain ⟨s, ew, hs, hgm, rfl, rfl⟩ := hrel
                rw [ew]
                clear ew
                have HGM := hide hgm
                clear hgm
                by_cases hsn : s < R.length
                · obtain ⟨xa, xc, ex, hx1, hx2, hrow⟩ := unhide HRW
                  unfold maxLen at hx2
                  simp only [Value.slice.injEq] at ex
                  obtain ⟨rfl, -, rfl⟩ := ex
                  obtain ⟨b, o, vr, ea, hcell, hin⟩ := hrow s (by rw [unhide HDL]; exact hsn)
                  first | subst ea | (simp only [Option.some.injEq, Addr.mk.injEq, and_true] at ea; obtain ⟨rfl, rfl⟩ := ea; rw [Nat.zero_add] at hcell)
                  clear hx1
                  obtain ⟨ar, cr, rfl, h1, h2, -⟩ := hin
                  unfold maxLen at h2
                  have hl1 : lenY D1 (s + 1) = lenY D1 s + (D1.getD s []).length := rfl
                  have hl2 := unhide HLE (s + 1) hsn
                  obtain ⟨l1, el1⟩ : ∃ z, z = lenY D1 (s + 1) := ⟨_, rfl⟩
                  obtain ⟨l0, el0⟩ : ∃ z, z = lenY D1 s := ⟨_, rfl⟩
                  obtain ⟨ln, eln⟩ : ∃ z, z = (D1.getD s []).length := ⟨_, rfl⟩
                  rw [← el1, ← el0, ← eln] at hl1
                  rw [← el1] at hl2
                  rw [← eln] at hcell h1
                  rw [← el0]
                  have HE1 := hide el1
                  clear el1 el0 eln hrow HRW
                  have hwr : IntKind.i64.wrap ((l0 : Int) + (ln : Int)) = (l1 : Int) := by rw [IntKind.wrap_i64]; omega
                  go_wp2
                  go_roundg (R.length - (s + 1))
                  case measure => have := unhide HGM; omega
                  case rel => exact ⟨s + 1, rfl, by omega, rfl, by rw [← unhide HE1]; go_num, by go_num⟩
                · obtain rfl : s = R.length := by omega
                  clear hs hsn HGM
                  go_upto_region 25 with (fail)
                  clear HRW
                  have hq72 := unhide HLQ R.length (Nat.le_refl _)
                  have hd72 := unhide HLE R.length (Nat.le_refl _)
                  have e1 : lenY Q R.length = Q.flatten.length := by rw [← unhide HQL]; exact lenY_all Q
                  have e2 : lenY D1 R.length = D1.flatten.length := by rw [← unhide HDL]; exact lenY_all D1
                  have hfl := unhide HFL
                  rw [← e1, ← e2] at hfl
                  obtain ⟨bq, ebq⟩ : ∃ z, z = lenY Q R.length := ⟨_, rfl⟩
                  obtain ⟨bd, ebd⟩ : ∃ z, z = lenY D1 R.length := ⟨_, rfl⟩
                  rw [← ebq] at hfl hq72 ⊢
                  rw [← ebd] at hfl hd72 ⊢
                  clear e1 e2 ebq ebd
                  have c0 := (unhide HOC _ (unhide HK)).1
                  have b1 := (unhide HB).cell (i := 1) rfl
                  by_cases h0 : D3 = 0
                  case neg =>
                    have g0 : (D3 == 0) = false := by simp [h0]
                    have hbb : bd = bq := by
                      rw [if_neg (fun e => h0 e.1), if_neg (fun e => h0 e.1)] at hfl
                      omega
                    subst hbb
                    clear hfl
                    have hne : ((bd : Int) != (bd : Int)) = false := by simp
                    go_upto_region 33 with (fail)
                    clear q0 q1 c0 b1
                    have q0 := (unhide HX).cell (i := 0) rfl
                    have q1 := (unhide HX).cell (i := 1) rfl
                    have b0 := (unhide HB).cell (i := 0) rfl
                    have b1 := (unhide HB).cell (i := 1) rfl
                    have f0 := (unhide HB).frozen 0
                    have f1 := (unhide HB).frozen 1
                    obtain ⟨w8, ew8⟩ : ∃ z, z = (w6.setCell ⟨gn, 0, none⟩ (.int .i64 H)).setCell ⟨gn, 1, none⟩ (.slice (some ⟨gq, 0, none⟩) R.length cap) := ⟨_, rfl⟩
                    have hKS : Kept (fun b => b = gn) w6 w8 := by rw [ew8]; exact ((Kept.refl (fun b => b = gn) _).setCell (p := ⟨gn, 0, none⟩) rfl _).setCell (p := ⟨gn, 1, none⟩) rfl _
                    have HB8 : Hid (OwnV w8 gn [.int .i64 H, .slice (some ⟨gq, 0, none⟩) R.length cap]) := by show OwnV _ _ _; rw [ew8]; exact ((unhide HB).set 0 _ (by simp)).set 1 _ (by simp)
                    have HK8 := hide ((unhide HK).trans hKS)
                    have HO8 := hide ((unhide HOR).kept hKS (fun b h1 h2 e => by have e : b = gn := e; omega))
                    clear hKS HK HKR HOR
                    have HE8 := hide ew8
                    clear ew8
                    go_wp2
                    go_roundg (M.length - (i + 1))
                    case measure => have := unhide HGI; omega
                    case rel =>
                      rw [← unhide HE8]
                      exact ⟨i + 1, _, _, by omega, rfl, by go_num, HK8, HB8, by show Stays gn _ _ _; rw [unhide HR1]; exact fun W' k => ((unhide HO8).kept k (fun b h1 h2 e => by have e : b = gn := e; omega)).inn⟩
                  subst h0
                  by_cases hk1 : x0 = 1
                  case pos =>
                    subst hk1
                    have hbb : bd = bq + 1 := by
                      rw [if_pos ⟨rfl, rfl⟩, if_neg (fun e => absurd e.2 (by decide))] at hfl
                      omega
                    subst hbb
                    clear hfl
                    have hwr : IntKind.i64.wrap ((bq : Int) + 1) = ((bq + 1 : Nat) : Int) := by rw [IntKind.wrap_i64]; omega
                    have hne : (((bq + 1 : Nat) : Int) != ((bq + 1 : Nat) : Int)) = false := by simp
                    go_upto_region 33 with (fail)
                    clear q0 q1 c0 b1
                    have q0 := (unhide HX).cell (i := 0) rfl
                    have q1 := (unhide HX).cell (i := 1) rfl
                    have b0 := (unhide HB).cell (i := 0) rfl
                    have b1 := (unhide HB).cell (i := 1) rfl
                    have f0 := (unhide HB).frozen 0
                    have f1 := (unhide HB).frozen 1
                    obtain ⟨w8, ew8⟩ : ∃ z, z = (w6.setCell ⟨gn, 0, none⟩ (.int .i64 H)).setCell ⟨gn, 1, none⟩ (.slice (some ⟨gq, 0, none⟩) R.length cap) := ⟨_, rfl⟩
                    have hKS : Kept (fun b => b = gn) w6 w8 := by rw [ew8]; exact ((Kept.refl (fun b => b = gn) _).setCell (p := ⟨gn, 0, none⟩) rfl _).setCell (p := ⟨gn, 1, none⟩) rfl _
                    have HB8 : Hid (OwnV w8 gn [.int .i64 H, .slice (some ⟨gq, 0, none⟩) R.length cap]) := by show OwnV _ _ _; rw [ew8]; exact ((unhide HB).set 0 _ (by simp)).set 1 _ (by simp)
                    have HK8 := hide ((unhide HK).trans hKS)
                    have HO8 := hide ((unhide HOR).kept hKS (fun b h1 h2 e => by have e : b = gn := e; omega))
                    clear hKS HK HKR HOR
                    have HE8 := hide ew8
                    clear ew8
                    go_wp2
                    go_roundg (M.length - (i + 1))
                    case measure => have := unhide HGI; omega
                    case rel =>
                      rw [← unhide HE8]
                      exact ⟨i + 1, _, _, by omega, rfl, by go_num, HK8, HB8, by show Stays gn _ _ _; rw [unhide HR1]; exact fun W' k => ((unhide HO8).kept k (fun b h1 h2 e => by have e : b = gn := e; omega)).inn⟩
                  have g1 : (x0 == 1) = false := by simp [hk1]
                  by_cases hk2 : x0 = 2
                  case neg =>
                    have g2 : (x0 == 2) = false := by simp [hk2]
                    have hbb : bd = bq := by
                      rw [if_neg (fun e => hk1 e.2), if_neg (fun e => hk2 e.2)] at hfl
                      omega
                    subst hbb
                    clear hfl
                    have hne : ((bd : Int) != (bd : Int)) = false := by simp
                    go_upto_region 33 with (fail)
                    clear q0 q1 c0 b1
                    have q0 := (unhide HX).cell (i := 0) rfl
                    have q1 := (unhide HX).cell (i := 1) rfl
                    have b0 := (unhide HB).cell (i := 0) rfl
                    have b1 := (unhide HB).cell (i := 1) rfl
                    have f0 := (unhide HB).frozen 0
                    have f1 := (unhide HB).frozen 1
                    obtain ⟨w8, ew8⟩ : ∃ z, z = (w6.setCell ⟨gn, 0, none⟩ (.int .i64 H)).setCell ⟨gn, 1, none⟩ (.slice (some ⟨gq, 0, none⟩) R.length cap) := ⟨_, rfl⟩
                    have hKS : Kept (fun b => b = gn) w6 w8 := by rw [ew8]; exact ((Kept.refl (fun b => b = gn) _).setCell (p := ⟨gn, 0, none⟩) rfl _).setCell (p := ⟨gn, 1, none⟩) rfl _
                    have HB8 : Hid (OwnV w8 gn [.int .i64 H, .slice (some ⟨gq, 0, none⟩) R.length cap]) := by show OwnV _ _ _; rw [ew8]; exact ((unhide HB).set 0 _ (by simp)).set 1 _ (by simp)
                    have HK8 := hide ((unhide HK).trans hKS)
                    have HO8 := hide ((unhide HOR).kept hKS (fun b h1 h2 e => by have e : b = gn := e; omega))
                    clear hKS HK HKR HOR
                    have HE8 := hide ew8
                    clear ew8
                    go_wp2
                    go_roundg (M.length - (i + 1))
                    case measure => have := unhide HGI; omega
                    case rel =>
                      rw [← unhide HE8]
                      exact ⟨i + 1, _, _, by omega, rfl, by go_num, HK8, HB8, by show Stays gn _ _ _; rw [unhide HR1]; exact fun W' k => ((unhide HO8).kept k (fun b h1 h2 e => by have e : b = gn := e; omega)).inn⟩
                  subst hk2
                  clear hk1 g1
                  have hbb : bq = bd + 1 := by
                    rw [if_neg (fun e => absurd e.2 (by decide)), if_pos ⟨rfl, rfl⟩] at hfl
                    omega
                  obtain ⟨pq, hp1, hp2⟩ := unhide HOU rfl (by rw [← unhide HED])
                  rw [← unhide HED] at hp2
                  dsimp only at hp2
                  rw [unhide HFN] at hp1
                  cases hp1
          | some pp =>
            obtain ⟨s1, s2⟩ := pp
            have h3 := unhide HEF3 (s1, s2) hfb
            dsimp only at h3
            obtain ⟨rfl, rfl, rfl⟩ := h3
            have HFS := hide hfb
            obtain ⟨pb1, pb2, pb3⟩ := findB_at hfb
            dsimp only at pb1 pb2 pb3
            clear hfb HEF HEF2 HEF3
            rw [unhide HQL] at pb1
            obtain ⟨xa, xc, ex, hx1, hx2, hrow⟩ := unhide HNS _ (unhide HKR)
            unfold maxLen at hx2
            simp only [Value.slice.injEq] at ex
            obtain ⟨rfl, -, rfl⟩ := ex
            obtain ⟨rb, ro, vr, ea, hcell, hin⟩ := hrow s1 (by rw [unhide HQL]; exact pb1)
            subst ea
            have PB2 := hide pb2
            obtain ⟨ar, ro2, ln, cr, rfl, eln, h1, h2, hcx⟩ := ints_cell hin pb2
            unfold maxLen at h2
            rw [pb3] at hcx
            rw [← eln] at pb2 h1
            have y1 := (unhide HB).cell (i := 1) rfl
            have c1 := (unhide HOC _ (unhide HK)).2.1
            have hne1 : (x1 != x1) = false := by simp
            clear hrow hin pb3 hx1 eln
            go_upto_region 14 with (fail)
            go_quiet (fail)
            go_upto_region 16 with (fail)
            clear y1 c1 hne1 hcell hcx h1 h2 hx2 pb2
            obtain ⟨w4, ew4⟩ : ∃ z, z = w3.drewN nq := ⟨_, rfl⟩
            have hb : Below w3.heap.size w3 w4 := by rw [ew4]; exact below_drewN (Below.refl _ _) nq
            rw [← ew4]
            clear ew4
            replace HB := hide ((unhide HB).step hb)
            replace HK := hide ((unhide HK).trans (kept_gn hb))
            replace HKR := hide ((unhide HKR).trans (kept_gn hb))
            clear hb
            obtain ⟨wd, ewd⟩ : ∃ z, z = w4.drew := ⟨_, rfl⟩
            have hb : Below w4.heap.size w4 wd := by rw [ewd]; exact (Below.refl _ _).drew
            replace HB := hide ((unhide HB).step hb)
            replace HK := hide ((unhide HK).trans (kept_gn hb))
            replace HKR := hide ((unhide HKR).trans (kept_gn hb))
            clear hb
            have hhd := (show wd.cell? ⟨gn, 0, none⟩ = some (.int .i64 H) ∧ wd.cell? ⟨gn, 1, none⟩ = some (.slice (some ⟨rb, ro, none⟩) R.length nc) ∧ wd.cell? ⟨ob, oo + i * 3, none⟩ = some (.int .i64 x0) ∧ wd.cell? ⟨ob, oo + i * 3 + 1, none⟩ = some (.int .i64 x1) ∧ wd.cell? ⟨ob, oo + i * 3 + 2, none⟩ = some (.int .i64 x2) from ⟨(unhide HB).cell (i := 0) rfl, (unhide HB).cell (i := 1) rfl, (unhide HOC _ (unhide HK)).1, (unhide HOC _ (unhide HK)).2.1, (unhide HOC _ (unhide HK)).2.2⟩)
            rw [ewd] at hhd
            refine wp_region_held_drew (S := fun w' => w'.cell? ⟨gn, 0, none⟩ = some (.int .i64 H) ∧ w'.cell? ⟨gn, 1, none⟩ = some (.slice (some ⟨rb, ro, none⟩) R.length nc) ∧ w'.cell? ⟨ob, oo + i * 3, none⟩ = some (.int .i64 x0) ∧ w'.cell? ⟨ob, oo + i * 3 + 1, none⟩ = some (.int .i64 x1) ∧ w'.cell? ⟨ob, oo + i * 3 + 2, none⟩ = some (.int .i64 x2)) (by kernel_rfl) hhd (fun hHeld => ?_)
            clear hhd
            rw [← ewd] at hHeld ⊢
            clear ewd
            refine wpAnyH_take (i := 0) (v := ?_) rfl (by kernel_rfl) (by kernel_rfl) (by kernel_rfl) (fun _ _ _ h => h) (Or.inl ⟨by rfl, ?_⟩) (by assumption) ?_
            rotate_left
            · intro wy hSw
              obtain ⟨hS0, hS1, hS2, hS3, hS4⟩ := hSw
              go_simp
              try with_reducible rfl
            try simp only [Act.put, List.getElem_toArray, List.getElem_cons_zero, List.setIfInBounds_toArray, List.set_cons_zero, List.set_cons_succ]
            refine wpAnyH_take (i := 1) (v := ?_) rfl (by kernel_rfl) (by kernel_rfl) (by kernel_rfl) (fun _ _ _ h => h) (Or.inl ⟨by rfl, ?_⟩) (by assumption) ?_
            rotate_left
            · intro wy hSw
              obtain ⟨hS0, hS1, hS2, hS3, hS4⟩ := hSw
              go_simp
              try with_reducible rfl
            try simp only [Act.put, List.getElem_toArray, List.getElem_cons_succ, List.getElem_cons_zero, List.setIfInBounds_toArray, List.set_cons_zero, List.set_cons_succ]
            refine wpAnyH_take (i := 2) (v := ?_) rfl (by kernel_rfl) (by kernel_rfl) (by kernel_rfl) (fun _ _ _ h => h) (Or.inl ⟨by rfl, ?_⟩) (by assumption) ?_
            rotate_left
            · intro wy hSw
              obtain ⟨hS0, hS1, hS2, hS3, hS4⟩ := hSw
              go_simp
              try with_reducible rfl
            try simp only [Act.put, List.getElem_toArray, List.getElem_cons_succ, List.getElem_cons_zero, List.setIfInBounds_toArray, List.set_cons_zero, List.set_cons_succ]
            refine wpAnyH_take (i := 3) (v := ?_) rfl (by kernel_rfl) (by kernel_rfl) (by kernel_rfl) (fun _ _ _ h => h) (Or.inl ⟨by rfl, ?_⟩) (by assumption) ?_
            rotate_left
            · intro wy hSw
              obtain ⟨hS0, hS1, hS2, hS3, hS4⟩ := hSw
              go_simp
              try with_reducible rfl
            try simp only [Act.put, List.getElem_toArray, List.getElem_cons_succ, List.getElem_cons_zero, List.setIfInBounds_toArray, List.set_cons_zero, List.set_cons_succ]
            refine wpAnyH_take (i := 4) (v := ?_) rfl (by kernel_rfl) (by kernel_rfl) (by kernel_rfl) (fun _ _ _ h => h) (Or.inl ⟨by rfl, ?_⟩) (by assumption) ?_
            rotate_left
            · intro wy hSw
              obtain ⟨hS0, hS1, hS2, hS3, hS4⟩ := hSw
              go_simp
              try with_reducible rfl
            try simp only [Act.put, List.getElem_toArray, List.getElem_cons_succ, List.getElem_cons_zero, List.setIfInBounds_toArray, List.set_cons_zero, List.set_cons_succ]
            refine wpAnyH_ready (rs := [5, 10]) (by kernel_rfl) (by simp) ?_
            refine AllReadyH.cons rfl (fun K hK => ?_) (AllReadyH.cons rfl (fun K hK => ?_) AllReadyH.nil)
            · skip
              go_simp
              refine (unhide HDY _ (unhide HNS _ (unhide HKR)) hQ1 (unhide hQ2)).mono ?_
              intro e wc hans
              obtain ⟨gq, G, C, cap, e1, hq1, hq2, hor, hb⟩ := hans
              dsimp only at e1 hq1 hor
              have hor2 := ownU_of hor hq1 hq2 rfl
              rw [unhide HDL] at e1 hor2
              subst e1
              unfold yardV
              have hgB := (unhide HB).lt
              obtain ⟨Bq, eBq⟩ : ∃ z, z = wd.heap.size := ⟨_, rfl⟩
              obtain ⟨Uq, eUq⟩ : ∃ z, z = wc.heap.size := ⟨_, rfl⟩
              rw [← eBq] at hgB
              rw [← eBq, ← eUq] at hor2
              have HOR := hide hor2
              have hUw : Uq ≤ wc.heap.size := by omega
              replace HB := hide ((unhide HB).step hb)
              replace HK := hide ((unhide HK).trans (kept_gn hb))
              replace HKR := hide ((unhide HKR).trans (kept_gn hb))
              clear hb hor hor2 hq1 hq2 eBq eUq
              refine hK.out _ _ ⟨(unhide HB).cell (i := 0) rfl, (unhide HB).cell (i := 1) rfl, (unhide HOC _ (unhide HK)).1, (unhide HOC _ (unhide HK)).2.1, (unhide HOC _ (unhide HK)).2.2⟩ (fun hHeld => ?_)
              clear hK K
              try simp only [Act.put, List.setIfInBounds_toArray, List.set_cons_zero, List.set_cons_succ]
              refine wpAnyH_take (i := 6) (v := ?_) rfl (by kernel_rfl) (by kernel_rfl) (by kernel_rfl) (fun _ _ _ h => h) (Or.inl ⟨by rfl, ?_⟩) (by assumption) ?_
              rotate_left
              · intro wy hSw
                obtain ⟨hS0, hS1, hS2, hS3, hS4⟩ := hSw
                go_simp
                try with_reducible rfl
              try simp only [Act.put, List.getElem_toArray, List.getElem_cons_succ, List.getElem_cons_zero, List.setIfInBounds_toArray, List.set_cons_zero, List.set_cons_succ]
              refine wpAnyH_take (i := 7) (v := ?_) rfl (by kernel_rfl) (by kernel_rfl) (by kernel_rfl) (fun _ _ _ h => h) (Or.inl ⟨by rfl, ?_⟩) (by assumption) ?_
              rotate_left
              · intro wy hSw
                obtain ⟨hS0, hS1, hS2, hS3, hS4⟩ := hSw
                go_simp
                try with_reducible rfl
              try simp only [Act.put, List.getElem_toArray, List.getElem_cons_succ, List.getElem_cons_zero, List.setIfInBounds_toArray, List.set_cons_zero, List.set_cons_succ]
              refine wpAnyH_take (i := 8) (v := ?_) rfl (by kernel_rfl) (by kernel_rfl) (by kernel_rfl) (fun _ _ _ h => h) (Or.inl ⟨by rfl, ?_⟩) (by assumption) ?_
              rotate_left
              · intro wy hSw
                obtain ⟨hS0, hS1, hS2, hS3, hS4⟩ := hSw
                go_simp
                try with_reducible rfl
              try simp only [Act.put, List.getElem_toArray, List.getElem_cons_succ, List.getElem_cons_zero, List.setIfInBounds_toArray, List.set_cons_zero, List.set_cons_succ]
              refine wpAnyH_take (i := 9) (v := ?_) rfl (by kernel_rfl) (by kernel_rfl) (by kernel_rfl) (fun _ _ _ h => h) (Or.inl ⟨by rfl, ?_⟩) (by assumption) ?_
              rotate_left
              · intro wy hSw
                obtain ⟨hS0, hS1, hS2, hS3, hS4⟩ := hSw
                go_simp
                try with_reducible rfl
              try simp only [Act.put, List.getElem_toArray, List.getElem_cons_succ, List.getElem_cons_zero, List.setIfInBounds_toArray, List.set_cons_zero, List.set_cons_succ]
              refine wpAnyH_ready (rs := [10]) (by kernel_rfl) (by simp) ?_
              refine AllReadyH.cons rfl (fun K hK => ?_) AllReadyH.nil
              go_simp
              obtain ⟨gx, egx⟩ : ∃ z, z = wc.heap.size := ⟨_, rfl⟩
              obtain ⟨wa, ew⟩ : ∃ z, z = wc.alloc (.cells #[.int .i64 0, .slice none 0 0] 26) := ⟨_, rfl⟩
              have hb : Below wc.heap.size wc wa := by rw [ew]; exact Below.alloc1 _ _
              have HX : Hid (OwnV wa gx [.int .i64 0, .slice none 0 0]) := by rw [ew, egx]; exact ownV_alloc _ _ _
              have hgx : gn < gx := by rw [egx]; exact (unhide HB).lt
              have hgV : V0.heap.size ≤ gx := by rw [egx]; exact (unhide HK).size
              have hg2 : w2.heap.size ≤ gx := by rw [egx]; exact (unhide HKR).size
              rw [← ew, ← egx]
              have hUg : Uq ≤ gx := by omega
              replace HB := hide ((unhide HB).step hb)
              replace HK := hide ((unhide HK).trans (kept_gn hb))
              replace HKR := hide ((unhide HKR).trans (kept_gn hb))
              replace HOR := hide ((unhide HOR).below hb)
              clear hb ew egx
              refine hK.out _ _ ⟨(unhide HB).cell (i := 0) rfl, (unhide HB).cell (i := 1) rfl, (unhide HOC _ (unhide HK)).1, (unhide HOC _ (unhide HK)).2.1, (unhide HOC _ (unhide HK)).2.2⟩ (fun hHeld => ?_)
              clear hK K
              try simp only [Act.put, List.setIfInBounds_toArray, List.set_cons_zero, List.set_cons_succ]
              refine wpAnyH_ready (rs := [11]) (by kernel_rfl) (by simp) ?_
              refine AllReadyH.cons rfl (fun K hK => ?_) AllReadyH.nil
              have rf0 := (unhide HX).frozen 0
              have r0 := (unhide HX).cell (i := 0) rfl
              have rf1 := (unhide HX).frozen 1
              have r1 := (unhide HX).cell (i := 1) rfl
              have HX2 := hide (((unhide HX).set 0 (.int .i64 H) (by simp)).set 1 (.slice (some ⟨gq, 0, none⟩) R.length cap) (by simp))
              have hKS : Kept (fun b => b = gx) wa ((wa.setCell ⟨gx, 0, none⟩ (.int .i64 H)).setCell ⟨gx, 1, none⟩ (.slice (some ⟨gq, 0, none⟩) R.length cap)) := ((Kept.refl (fun b => b = gx) _).setCell (p := ⟨gx, 0, none⟩) rfl _).setCell (p := ⟨gx, 1, none⟩) rfl _
              replace HB := hide ((unhide HB).kept hKS (fun e => by have e : gn = gx := e; omega))
              replace HK := hide ((unhide HK).own hKS (fun b e => by have e : b = gx := e; omega))
              replace HKR := hide ((unhide HKR).own hKS (fun b e => by have e : b = gx := e; omega))
              replace HOR := hide ((unhide HOR).kept hKS (fun b h1 h2 e => by have e : b = gx := e; omega))
              clear hKS
              go_simp
              clear rf0 r0 rf1 r1 HX
              refine hK.out _ _ ⟨(unhide HB).cell (i := 0) rfl, (unhide HB).cell (i := 1) rfl, (unhide HOC _ (unhide HK)).1, (unhide HOC _ (unhide HK)).2.1, (unhide HOC _ (unhide HK)).2.2⟩ (fun hHeld => ?_)
              clear hK K
              try simp only [Act.put, List.setIfInBounds_toArray, List.set_cons_zero, List.set_cons_succ]
              refine wpAnyH_take (i := 12) (v := ?_) rfl (by kernel_rfl) (by kernel_rfl) (by kernel_rfl) (fun _ _ _ h => h) (Or.inl ⟨by rfl, ?_⟩) (by assumption) ?_
              rotate_left
              · intro wy hSw
                obtain ⟨hS0, hS1, hS2, hS3, hS4⟩ := hSw
                go_simp
                try with_reducible rfl
              try simp only [Act.put, List.getElem_toArray, List.getElem_cons_succ, List.getElem_cons_zero, List.setIfInBounds_toArray, List.set_cons_zero, List.set_cons_succ]
              refine wpAnyH_take (i := 13) (v := ?_) rfl (by kernel_rfl) (by kernel_rfl) (by kernel_rfl) (fun _ _ _ h => h) (Or.inl ⟨by rfl, ?_⟩) (by assumption) ?_
              rotate_left
              · intro wy hSw
                obtain ⟨hS0, hS1, hS2, hS3, hS4⟩ := hSw
                go_simp
                try with_reducible rfl
              try simp only [Act.put, List.getElem_toArray, List.getElem_cons_succ, List.getElem_cons_zero, List.setIfInBounds_toArray, List.set_cons_zero, List.set_cons_succ]
              refine wpAnyH_done (by kernel_rfl) ?_ _
              have HX := HX2
              clear HX2
              obtain ⟨w5, ew5⟩ : ∃ z, z = (wa.setCell ⟨gx, 0, none⟩ (.int .i64 H)).setCell ⟨gx, 1, none⟩ (.slice (some ⟨gq, 0, none⟩) R.length cap) := ⟨_, rfl⟩
              rw [← ew5] at HB HK HKR HOR HX ⊢
              clear ew5 HDY HFB
              have HYK := hide fun V (hV : RowsIn V (.slice (some ⟨gq, 0, none⟩) R.length cap) D1) => implYardOk_any H (.slice (some ⟨gq, 0, none⟩) R.length cap) D1 V hV
              have hyb : yardB H D1 = true := decide_eq_true (unhide HDO)
              rw [hyb] at HYK
              unfold yardV at HYK
              go_upto_region 17 with (fail)
              have q0 := (unhide HX).cell (i := 0) rfl
              have q1 := (unhide HX).cell (i := 1) rfl
              go_wp2_with fail
              refine (unhide HYK _ (unhide HOR).inn).mono ?_
              rintro e w6 ⟨rfl, hb⟩
              replace HB := hide ((unhide HB).step hb)
              replace HK := hide ((unhide HK).trans (kept_gn hb))
              replace HKR := hide ((unhide HKR).trans (kept_gn hb))
              replace HX := hide ((unhide HX).step hb)
              replace HOR := hide ((unhide HOR).below hb)
              clear hb q0 q1 HYK hyb
              have q0 := (unhide HX).cell (i := 0) rfl
              have q1 := (unhide HX).cell (i := 1) rfl
              have HLQ := HLE
              clear HLE
              have HLE := hide fun s (hs : s ≤ R.length) => lenY_le (unhide HDO) (k := s) (by rw [unhide HDL]; exact hs)
              have HRW := hide (unhide HOR).inn
              go_wp2
              go_loopg [15, 16] R.length (fun gm bv sv wr2 => ∃ s : Nat, wr2 = w6 ∧ s ≤ R.length ∧ gm = R.length - s ∧ bv = .int .i64 (lenY D1 s) ∧ sv = .int .i64 s)
              case atStart => exact ⟨0, rfl, Nat.zero_le _, rfl, rfl, rfl⟩
              case round =>
                obtain ⟨s, ew, hs, hgm, rfl, rfl⟩ := hrel
                rw [ew]
                clear ew
                have HGM := hide hgm
                clear hgm
                by_cases hsn : s < R.length
                · obtain ⟨xa, xc, ex, hx1, hx2, hrow⟩ := unhide HRW
                  unfold maxLen at hx2
                  simp only [Value.slice.injEq] at ex
                  obtain ⟨rfl, -, rfl⟩ := ex
                  obtain ⟨b, o, vr, ea, hcell, hin⟩ := hrow s (by rw [unhide HDL]; exact hsn)
                  first | subst ea | (simp only [Option.some.injEq, Addr.mk.injEq, and_true] at ea; obtain ⟨rfl, rfl⟩ := ea; rw [Nat.zero_add] at hcell)
                  clear hx1
                  obtain ⟨ar, cr, rfl, h1, h2, -⟩ := hin
                  unfold maxLen at h2
                  have hl1 : lenY D1 (s + 1) = lenY D1 s + (D1.getD s []).length := rfl
                  have hl2 := unhide HLE (s + 1) hsn
                  obtain ⟨l1, el1⟩ : ∃ z, z = lenY D1 (s + 1) := ⟨_, rfl⟩
                  obtain ⟨l0, el0⟩ : ∃ z, z = lenY D1 s := ⟨_, rfl⟩
                  obtain ⟨ln, eln⟩ : ∃ z, z = (D1.getD s []).length := ⟨_, rfl⟩
                  rw [← el1, ← el0, ← eln] at hl1
                  rw [← el1] at hl2
                  rw [← eln] at hcell h1
                  rw [← el0]
                  have HE1 := hide el1
                  clear el1 el0 eln hrow HRW
                  have hwr : IntKind.i64.wrap ((l0 : Int) + (ln : Int)) = (l1 : Int) := by rw [IntKind.wrap_i64]; omega
                  go_wp2
                  go_roundg (R.length - (s + 1))
                  case measure => have := unhide HGM; omega
                  case rel => exact ⟨s + 1, rfl, by omega, rfl, by rw [← unhide HE1]; go_num, by go_num⟩
                · obtain rfl : s = R.length := by omega
                  clear hs hsn HGM
                  go_upto_region 25 with (fail)
                  clear HRW
                  have hq72 := unhide HLQ R.length (Nat.le_refl _)
                  have hd72 := unhide HLE R.length (Nat.le_refl _)
                  have e1 : lenY Q R.length = Q.flatten.length := by rw [← unhide HQL]; exact lenY_all Q
                  have e2 : lenY D1 R.length = D1.flatten.length := by rw [← unhide HDL]; exact lenY_all D1
                  have hfl := unhide HFL
                  rw [← e1, ← e2] at hfl
                  obtain ⟨bq, ebq⟩ : ∃ z, z = lenY Q R.length := ⟨_, rfl⟩
                  obtain ⟨bd, ebd⟩ : ∃ z, z = lenY D1 R.length := ⟨_, rfl⟩
                  rw [← ebq] at hfl hq72 ⊢
                  rw [← ebd] at hfl hd72 ⊢
                  clear e1 e2 ebq ebd
                  have c0 := (unhide HOC _ (unhide HK)).1
                  have b1 := (unhide HB).cell (i := 1) rfl
                  by_cases h0 : D3 = 0
                  case neg =>
                    have g0 : (D3 == 0) = false := by simp [h0]
                    have hbb : bd = bq := by
                      rw [if_neg (fun e => h0 e.1), if_neg (fun e => h0 e.1)] at hfl
                      omega
                    subst hbb
                    clear hfl
                    have hne : ((bd : Int) != (bd : Int)) = false := by simp
                    go_upto_region 33 with (fail)
                    clear q0 q1 c0 b1
                    have q0 := (unhide HX).cell (i := 0) rfl
                    have q1 := (unhide HX).cell (i := 1) rfl
                    have b0 := (unhide HB).cell (i := 0) rfl
                    have b1 := (unhide HB).cell (i := 1) rfl
                    have f0 := (unhide HB).frozen 0
                    have f1 := (unhide HB).frozen 1
                    obtain ⟨w8, ew8⟩ : ∃ z, z = (w6.setCell ⟨gn, 0, none⟩ (.int .i64 H)).setCell ⟨gn, 1, none⟩ (.slice (some ⟨gq, 0, none⟩) R.length cap) := ⟨_, rfl⟩
                    have hKS : Kept (fun b => b = gn) w6 w8 := by rw [ew8]; exact ((Kept.refl (fun b => b = gn) _).setCell (p := ⟨gn, 0, none⟩) rfl _).setCell (p := ⟨gn, 1, none⟩) rfl _
                    have HB8 : Hid (OwnV w8 gn [.int .i64 H, .slice (some ⟨gq, 0, none⟩) R.length cap]) := by show OwnV _ _ _; rw [ew8]; exact ((unhide HB).set 0 _ (by simp)).set 1 _ (by simp)
                    have HK8 := hide ((unhide HK).trans hKS)
                    have HO8 := hide ((unhide HOR).kept hKS (fun b h1 h2 e => by have e : b = gn := e; omega))
                    clear hKS HK HKR HOR
                    have HE8 := hide ew8
                    clear ew8
                    go_wp2
                    go_roundg (M.length - (i + 1))
                    case measure => have := unhide HGI; omega
                    case rel =>
                      rw [← unhide HE8]
                      exact ⟨i + 1, _, _, by omega, rfl, by go_num, HK8, HB8, by show Stays gn _ _ _; rw [unhide HR1]; exact fun W' k => ((unhide HO8).kept k (fun b h1 h2 e => by have e : b = gn := e; omega)).inn⟩
                  subst h0
                  by_cases hk1 : x0 = 1
                  case pos =>
                    subst hk1
                    have hbb : bd = bq + 1 := by
                      rw [if_pos ⟨rfl, rfl⟩, if_neg (fun e => absurd e.2 (by decide))] at hfl
                      omega
                    subst hbb
                    clear hfl
                    have hwr : IntKind.i64.wrap ((bq : Int) + 1) = ((bq + 1 : Nat) : Int) := by rw [IntKind.wrap_i64]; omega
                    have hne : (((bq + 1 : Nat) : Int) != ((bq + 1 : Nat) : Int)) = false := by simp
                    go_upto_region 33 with (fail)
                    clear q0 q1 c0 b1
                    have q0 := (unhide HX).cell (i := 0) rfl
                    have q1 := (unhide HX).cell (i := 1) rfl
                    have b0 := (unhide HB).cell (i := 0) rfl
                    have b1 := (unhide HB).cell (i := 1) rfl
                    have f0 := (unhide HB).frozen 0
                    have f1 := (unhide HB).frozen 1
                    obtain ⟨w8, ew8⟩ : ∃ z, z = (w6.setCell ⟨gn, 0, none⟩ (.int .i64 H)).setCell ⟨gn, 1, none⟩ (.slice (some ⟨gq, 0, none⟩) R.length cap) := ⟨_, rfl⟩
                    have hKS : Kept (fun b => b = gn) w6 w8 := by rw [ew8]; exact ((Kept.refl (fun b => b = gn) _).setCell (p := ⟨gn, 0, none⟩) rfl _).setCell (p := ⟨gn, 1, none⟩) rfl _
                    have HB8 : Hid (OwnV w8 gn [.int .i64 H, .slice (some ⟨gq, 0, none⟩) R.length cap]) := by show OwnV _ _ _; rw [ew8]; exact ((unhide HB).set 0 _ (by simp)).set 1 _ (by simp)
                    have HK8 := hide ((unhide HK).trans hKS)
                    have HO8 := hide ((unhide HOR).kept hKS (fun b h1 h2 e => by have e : b = gn := e; omega))
                    clear hKS HK HKR HOR
                    have HE8 := hide ew8
                    clear ew8
                    go_wp2
                    go_roundg (M.length - (i + 1))
                    case measure => have := unhide HGI; omega
                    case rel =>
                      rw [← unhide HE8]
                      exact ⟨i + 1, _, _, by omega, rfl, by go_num, HK8, HB8, by show Stays gn _ _ _; rw [unhide HR1]; exact fun W' k => ((unhide HO8).kept k (fun b h1 h2 e => by have e : b = gn := e; omega)).inn⟩
                  have g1 : (x0 == 1) = false := by simp [hk1]
                  by_cases hk2 : x0 = 2
                  case neg =>
                    have g2 : (x0 == 2) = false := by simp [hk2]
                    have hbb : bd = bq := by
                      rw [if_neg (fun e => hk1 e.2), if_neg (fun e => hk2 e.2)] at hfl
                      omega
                    subst hbb
                    clear hfl
                    have hne : ((bd : Int) != (bd : Int)) = false := by simp
                    go_upto_region 33 with (fail)
                    clear q0 q1 c0 b1
                    have q0 := (unhide HX).cell (i := 0) rfl
                    have q1 := (unhide HX).cell (i := 1) rfl
                    have b0 := (unhide HB).cell (i := 0) rfl
                    have b1 := (unhide HB).cell (i := 1) rfl
                    have f0 := (unhide HB).frozen 0
                    have f1 := (unhide HB).frozen 1
                    obtain ⟨w8, ew8⟩ : ∃ z, z = (w6.setCell ⟨gn, 0, none⟩ (.int .i64 H)).setCell ⟨gn, 1, none⟩ (.slice (some ⟨gq, 0, none⟩) R.length cap) := ⟨_, rfl⟩
                    have hKS : Kept (fun b => b = gn) w6 w8 := by rw [ew8]; exact ((Kept.refl (fun b => b = gn) _).setCell (p := ⟨gn, 0, none⟩) rfl _).setCell (p := ⟨gn, 1, none⟩) rfl _
                    have HB8 : Hid (OwnV w8 gn [.int .i64 H, .slice (some ⟨gq, 0, none⟩) R.length cap]) := by show OwnV _ _ _; rw [ew8]; exact ((unhide HB).set 0 _ (by simp)).set 1 _ (by simp)
                    have HK8 := hide ((unhide HK).trans hKS)
                    have HO8 := hide ((unhide HOR).kept hKS (fun b h1 h2 e => by have e : b = gn := e; omega))
                    clear hKS HK HKR HOR
                    have HE8 := hide ew8
                    clear ew8
                    go_wp2
                    go_roundg (M.length - (i + 1))
                    case measure => have := unhide HGI; omega
                    case rel =>
                      rw [← unhide HE8]
                      exact ⟨i + 1, _, _, by omega, rfl, by go_num, HK8, HB8, by show Stays gn _ _ _; rw [unhide HR1]; exact fun W' k => ((unhide HO8).kept k (fun b h1 h2 e => by have e : b = gn := e; omega)).inn⟩
                  subst hk2
                  clear hk1 g1
                  have hbb : bq = bd + 1 := by
                    rw [if_neg (fun e => absurd e.2 (by decide)), if_pos ⟨rfl, rfl⟩] at hfl
                    omega
                  obtain ⟨pq, hp1, hp2⟩ := unhide HOU rfl (by rw [← unhide HED])
                  rw [← unhide HED] at hp2
                  dsimp only at hp2
                  rw [unhide HFS] at hp1
                  simp only [Option.some.injEq] at hp1
                  subst hp1
                  dsimp only at hp2
                  subst hbb
                  clear hfl
                  have hwr : IntKind.i64.wrap (((bd + 1 : Nat) : Int) - 1) = (bd : Int) := by rw [IntKind.wrap_i64]; omega
                  have hwp : ((bd + 1 : Nat) : Int) - 1 = (bd : Int) := by omega
                  have hne : ((bd : Int) != (bd : Int)) = false := by simp
                  obtain ⟨xa, xc, ex, hx1, hx2, hrow⟩ := unhide HNS _ (unhide HKR)
                  unfold maxLen at hx2
                  simp only [Value.slice.injEq] at ex
                  obtain ⟨rfl, -, rfl⟩ := ex
                  obtain ⟨rb', ro', vr, ea, hcell, hin⟩ := hrow s1 (by rw [unhide HQL]; exact pb1)
                  simp only [Option.some.injEq, Addr.mk.injEq, and_true] at ea
                  obtain ⟨rfl, rfl⟩ := ea
                  have pb2 := unhide PB2
                  obtain ⟨ar', ro2', ln', cr', rfl, eln', h1, h2, -⟩ := ints_cell hin pb2
                  unfold maxLen at h2
                  rw [← eln'] at hp2 pb2 h1
                  have hw1 : IntKind.i64.wrap ((ln' : Int) - (s2 : Int)) = (ln' : Int) - (s2 : Int) := by rw [IntKind.wrap_i64]; omega
                  have hw2 : IntKind.i64.wrap ((ln' : Int) - (s2 : Int) - 1) = (ln' : Int) - (s2 : Int) - 1 := by rw [IntKind.wrap_i64]; omega
                  have hn2 : (((ln' : Int) - (s2 : Int) - 1) != ((ln' : Int) - (s2 : Int) - 1)) = false := by simp
                  subst hp2
                  clear hrow hin eln' hx1
                  go_upto_region 33 with (fail)
                  clear hn2 hw1 hw2 hwr hwp hne hcell
                  clear q0 q1 c0 b1
                  have q0 := (unhide HX).cell (i := 0) rfl
                  have q1 := (unhide HX).cell (i := 1) rfl
                  have b0 := (unhide HB).cell (i := 0) rfl
                  have b1 := (unhide HB).cell (i := 1) rfl
                  have f0 := (unhide HB).frozen 0
                  have f1 := (unhide HB).frozen 1
                  obtain ⟨w8, ew8⟩ : ∃ z, z = (w6.setCell ⟨gn, 0, none⟩ (.int .i64 H)).setCell ⟨gn, 1, none⟩ (.slice (some ⟨gq, 0, none⟩) R.length cap) := ⟨_, rfl⟩
                  have hKS : Kept (fun b => b = gn) w6 w8 := by rw [ew8]; exact ((Kept.refl (fun b => b = gn) _).setCell (p := ⟨gn, 0, none⟩) rfl _).setCell (p := ⟨gn, 1, none⟩) rfl _
                  have HB8 : Hid (OwnV w8 gn [.int .i64 H, .slice (some ⟨gq, 0, none⟩) R.length cap]) := by show OwnV _ _ _; rw [ew8]; exact ((unhide HB).set 0 _ (by simp)).set 1 _ (by simp)
                  have HK8 := hide ((unhide HK).trans hKS)
                  have HO8 := hide ((unhide HOR).kept hKS (fun b h1 h2 e => by have e : b = gn := e; omega))
                  clear hKS HK HKR HOR
                  have HE8 := hide ew8
                  clear ew8
                  go_wp2
                  go_roundg (M.length - (i + 1))
                  case measure => have := unhide HGI; omega
                  case rel =>
                    rw [← unhide HE8]
                    exact ⟨i + 1, _, _, by omega, rfl, by go_num, HK8, HB8, by show Stays gn _ _ _; rw [unhide HR1]; exact fun W' k => ((unhide HO8).kept k (fun b h1 h2 e => by have e : b = gn := e; omega)).inn⟩
            · skip
              go_simp
              obtain ⟨gx, egx⟩ : ∃ z, z = wd.heap.size := ⟨_, rfl⟩
              obtain ⟨wa, ew⟩ : ∃ z, z = wd.alloc (.cells #[.int .i64 0, .slice none 0 0] 26) := ⟨_, rfl⟩
              have hb : Below wd.heap.size wd wa := by rw [ew]; exact Below.alloc1 _ _
              have HX : Hid (OwnV wa gx [.int .i64 0, .slice none 0 0]) := by rw [ew, egx]; exact ownV_alloc _ _ _
              have hgx : gn < gx := by rw [egx]; exact (unhide HB).lt
              have hgV : V0.heap.size ≤ gx := by rw [egx]; exact (unhide HK).size
              have hg2 : w2.heap.size ≤ gx := by rw [egx]; exact (unhide HKR).size
              rw [← ew, ← egx]
              replace HB := hide ((unhide HB).step hb)
              replace HK := hide ((unhide HK).trans (kept_gn hb))
              replace HKR := hide ((unhide HKR).trans (kept_gn hb))
              clear hb ew egx
              refine hK.out _ _ ⟨(unhide HB).cell (i := 0) rfl, (unhide HB).cell (i := 1) rfl, (unhide HOC _ (unhide HK)).1, (unhide HOC _ (unhide HK)).2.1, (unhide HOC _ (unhide HK)).2.2⟩ (fun hHeld => ?_)
              clear hK K
              try simp only [Act.put, List.setIfInBounds_toArray, List.set_cons_zero, List.set_cons_succ]
              refine wpAnyH_ready (rs := [5]) (by kernel_rfl) (by simp) ?_
              refine AllReadyH.cons rfl (fun K hK => ?_) AllReadyH.nil
              go_simp
              refine (unhide HDY _ (unhide HNS _ (unhide HKR)) hQ1 (unhide hQ2)).mono ?_
              intro e wc hans
              obtain ⟨gq, G, C, cap, e1, hq1, hq2, hor, hb⟩ := hans
              dsimp only at e1 hq1 hor
              have hor2 := ownU_of hor hq1 hq2 rfl
              rw [unhide HDL] at e1 hor2
              subst e1
              unfold yardV
              have hgB := (unhide HB).lt
              obtain ⟨Bq, eBq⟩ : ∃ z, z = wa.heap.size := ⟨_, rfl⟩
              obtain ⟨Uq, eUq⟩ : ∃ z, z = wc.heap.size := ⟨_, rfl⟩
              rw [← eBq] at hgB
              rw [← eBq, ← eUq] at hor2
              have HOR := hide hor2
              have hgxB : gx < Bq := by rw [eBq]; exact (unhide HX).lt
              replace HB := hide ((unhide HB).step hb)
              replace HK := hide ((unhide HK).trans (kept_gn hb))
              replace HKR := hide ((unhide HKR).trans (kept_gn hb))
              replace HX := hide ((unhide HX).step hb)
              clear hb hor hor2 hq1 hq2 eBq eUq
              refine hK.out _ _ ⟨(unhide HB).cell (i := 0) rfl, (unhide HB).cell (i := 1) rfl, (unhide HOC _ (unhide HK)).1, (unhide HOC _ (unhide HK)).2.1, (unhide HOC _ (unhide HK)).2.2⟩ (fun hHeld => ?_)
              clear hK K
              try simp only [Act.put, List.setIfInBounds_toArray, List.set_cons_zero, List.set_cons_succ]
              refine wpAnyH_take (i := 6) (v := ?_) rfl (by kernel_rfl) (by kernel_rfl) (by kernel_rfl) (fun _ _ _ h => h) (Or.inl ⟨by rfl, ?_⟩) (by assumption) ?_
              rotate_left
              · intro wy hSw
                obtain ⟨hS0, hS1, hS2, hS3, hS4⟩ := hSw
                go_simp
                try with_reducible rfl
              try simp only [Act.put, List.getElem_toArray, List.getElem_cons_succ, List.getElem_cons_zero, List.setIfInBounds_toArray, List.set_cons_zero, List.set_cons_succ]
              refine wpAnyH_take (i := 7) (v := ?_) rfl (by kernel_rfl) (by kernel_rfl) (by kernel_rfl) (fun _ _ _ h => h) (Or.inl ⟨by rfl, ?_⟩) (by assumption) ?_
              rotate_left
              · intro wy hSw
                obtain ⟨hS0, hS1, hS2, hS3, hS4⟩ := hSw
                go_simp
                try with_reducible rfl
              try simp only [Act.put, List.getElem_toArray, List.getElem_cons_succ, List.getElem_cons_zero, List.setIfInBounds_toArray, List.set_cons_zero, List.set_cons_succ]
              refine wpAnyH_take (i := 8) (v := ?_) rfl (by kernel_rfl) (by kernel_rfl) (by kernel_rfl) (fun _ _ _ h => h) (Or.inl ⟨by rfl, ?_⟩) (by assumption) ?_
              rotate_left
              · intro wy hSw
                obtain ⟨hS0, hS1, hS2, hS3, hS4⟩ := hSw
                go_simp
                try with_reducible rfl
              try simp only [Act.put, List.getElem_toArray, List.getElem_cons_succ, List.getElem_cons_zero, List.setIfInBounds_toArray, List.set_cons_zero, List.set_cons_succ]
              refine wpAnyH_take (i := 9) (v := ?_) rfl (by kernel_rfl) (by kernel_rfl) (by kernel_rfl) (fun _ _ _ h => h) (Or.inl ⟨by rfl, ?_⟩) (by assumption) ?_
              rotate_left
              · intro wy hSw
                obtain ⟨hS0, hS1, hS2, hS3, hS4⟩ := hSw
                go_simp
                try with_reducible rfl
              try simp only [Act.put, List.getElem_toArray, List.getElem_cons_succ, List.getElem_cons_zero, List.setIfInBounds_toArray, List.set_cons_zero, List.set_cons_succ]
              refine wpAnyH_ready (rs := [11]) (by kernel_rfl) (by simp) ?_
              refine AllReadyH.cons rfl (fun K hK => ?_) AllReadyH.nil
              have rf0 := (unhide HX).frozen 0
              have r0 := (unhide HX).cell (i := 0) rfl
              have rf1 := (unhide HX).frozen 1
              have r1 := (unhide HX).cell (i := 1) rfl
              have HX2 := hide (((unhide HX).set 0 (.int .i64 H) (by simp)).set 1 (.slice (some ⟨gq, 0, none⟩) R.length cap) (by simp))
              have hKS : Kept (fun b => b = gx) wc ((wc.setCell ⟨gx, 0, none⟩ (.int .i64 H)).setCell ⟨gx, 1, none⟩ (.slice (some ⟨gq, 0, none⟩) R.length cap)) := ((Kept.refl (fun b => b = gx) _).setCell (p := ⟨gx, 0, none⟩) rfl _).setCell (p := ⟨gx, 1, none⟩) rfl _
              replace HB := hide ((unhide HB).kept hKS (fun e => by have e : gn = gx := e; omega))
              replace HK := hide ((unhide HK).own hKS (fun b e => by have e : b = gx := e; omega))
              replace HKR := hide ((unhide HKR).own hKS (fun b e => by have e : b = gx := e; omega))
              replace HOR := hide ((unhide HOR).kept hKS (fun b h1 h2 e => by have e : b = gx := e; omega))
              clear hKS
              go_simp
              clear rf0 r0 rf1 r1 HX
              refine hK.out _ _ ⟨(unhide HB).cell (i := 0) rfl, (unhide HB).cell (i := 1) rfl, (unhide HOC _ (unhide HK)).1, (unhide HOC _ (unhide HK)).2.1, (unhide HOC _ (unhide HK)).2.2⟩ (fun hHeld => ?_)
              clear hK K
              try simp only [Act.put, List.setIfInBounds_toArray, List.set_cons_zero, List.set_cons_succ]
              refine wpAnyH_take (i := 12) (v := ?_) rfl (by kernel_rfl) (by kernel_rfl) (by kernel_rfl) (fun _ _ _ h => h) (Or.inl ⟨by rfl, ?_⟩) (by assumption) ?_
              rotate_left
              · intro wy hSw
                obtain ⟨hS0, hS1, hS2, hS3, hS4⟩ := hSw
                go_simp
                try with_reducible rfl
              try simp only [Act.put, List.getElem_toArray, List.getElem_cons_succ, List.getElem_cons_zero, List.setIfInBounds_toArray, List.set_cons_zero, List.set_cons_succ]
              refine wpAnyH_take (i := 13) (v := ?_) rfl (by kernel_rfl) (by kernel_rfl) (by kernel_rfl) (fun _ _ _ h => h) (Or.inl ⟨by rfl, ?_⟩) (by assumption) ?_
              rotate_left
              · intro wy hSw
                obtain ⟨hS0, hS1, hS2, hS3, hS4⟩ := hSw
                go_simp
                try with_reducible rfl
              try simp only [Act.put, List.getElem_toArray, List.getElem_cons_succ, List.getElem_cons_zero, List.setIfInBounds_toArray, List.set_cons_zero, List.set_cons_succ]
              refine wpAnyH_done (by kernel_rfl) ?_ _
              have HX := HX2
              clear HX2
              obtain ⟨w5, ew5⟩ : ∃ z, z = (wc.setCell ⟨gx, 0, none⟩ (.int .i64 H)).setCell ⟨gx, 1, none⟩ (.slice (some ⟨gq, 0, none⟩) R.length cap) := ⟨_, rfl⟩
              rw [← ew5] at HB HK HKR HOR HX ⊢
              clear ew5 HDY HFB
              have HYK := hide fun V (hV : RowsIn V (.slice (some ⟨gq, 0, none⟩) R.length cap) D1) => implYardOk_any H (.slice (some ⟨gq, 0, none⟩) R.length cap) D1 V hV
              have hyb : yardB H D1 = true := decide_eq_true (unhide HDO)
              rw [hyb] at HYK
              unfold yardV at HYK
              go_upto_region 17 with (fail)
              have q0 := (unhide HX).cell (i := 0) rfl
              have q1 := (unhide HX).cell (i := 1) rfl
              go_wp2_with fail
              refine (unhide HYK _ (unhide HOR).inn).mono ?_
              rintro e w6 ⟨rfl, hb⟩
              replace HB := hide ((unhide HB).step hb)
              replace HK := hide ((unhide HK).trans (kept_gn hb))
              replace HKR := hide ((unhide HKR).trans (kept_gn hb))
              replace HX := hide ((unhide HX).step hb)
              replace HOR := hide ((unhide HOR).below hb)
              clear hb q0 q1 HYK hyb
              have q0 := (unhide HX).cell (i := 0) rfl
              have q1 := (unhide HX).cell (i := 1) rfl
              have HLQ := HLE
              clear HLE
              have HLE := hide fun s (hs : s ≤ R.length) => lenY_le (unhide HDO) (k := s) (by rw [unhide HDL]; exact hs)
              have HRW := hide (unhide HOR).inn
              go_wp2
              go_loopg [15, 16] R.length (fun gm bv sv wr2 => ∃ s : Nat, wr2 = w6 ∧ s ≤ R.length ∧ gm = R.length - s ∧ bv = .int .i64 (lenY D1 s) ∧ sv = .int .i64 s)
              case atStart => exact ⟨0, rfl, Nat.zero_le _, rfl, rfl, rfl⟩
              case round =>
                obtain ⟨s, ew, hs, hgm, rfl, rfl⟩ := hrel
                rw [ew]
                clear ew
                have HGM := hide hgm
                clear hgm
                by_cases hsn : s < R.length
                · obtain ⟨xa, xc, ex, hx1, hx2, hrow⟩ := unhide HRW
                  unfold maxLen at hx2
                  simp only [Value.slice.injEq] at ex
                  obtain ⟨rfl, -, rfl⟩ := ex
                  obtain ⟨b, o, vr, ea, hcell, hin⟩ := hrow s (by rw [unhide HDL]; exact hsn)
                  first | subst ea | (simp only [Option.some.injEq, Addr.mk.injEq, and_true] at ea; obtain ⟨rfl, rfl⟩ := ea; rw [Nat.zero_add] at hcell)
                  clear hx1
                  obtain ⟨ar, cr, rfl, h1, h2, -⟩ := hin
                  unfold maxLen at h2
                  have hl1 : lenY D1 (s + 1) = lenY D1 s + (D1.getD s []).length := rfl
                  have hl2 := unhide HLE (s + 1) hsn
                  obtain ⟨l1, el1⟩ : ∃ z, z = lenY D1 (s + 1) := ⟨_, rfl⟩
                  obtain ⟨l0, el0⟩ : ∃ z, z = lenY D1 s := ⟨_, rfl⟩
                  obtain ⟨ln, eln⟩ : ∃ z, z = (D1.getD s []).length := ⟨_, rfl⟩
                  rw [← el1, ← el0, ← eln] at hl1
                  rw [← el1] at hl2
                  rw [← eln] at hcell h1
                  rw [← el0]
                  have HE1 := hide el1
                  clear el1 el0 eln hrow HRW
                  have hwr : IntKind.i64.wrap ((l0 : Int) + (ln : Int)) = (l1 : Int) := by rw [IntKind.wrap_i64]; omega
                  go_wp2
                  go_roundg (R.length - (s + 1))
                  case measure => have := unhide HGM; omega
                  case rel => exact ⟨s + 1, rfl, by omega, rfl, by rw [← unhide HE1]; go_num, by go_num⟩
                · obtain rfl : s = R.length := by omega
                  clear hs hsn HGM
                  go_upto_region 25 with (fail)
                  clear HRW
                  have hq72 := unhide HLQ R.length (Nat.le_refl _)
                  have hd72 := unhide HLE R.length (Nat.le_refl _)
                  have e1 : lenY Q R.length = Q.flatten.length := by rw [← unhide HQL]; exact lenY_all Q
                  have e2 : lenY D1 R.length = D1.flatten.length := by rw [← unhide HDL]; exact lenY_all D1
                  have hfl := unhide HFL
                  rw [← e1, ← e2] at hfl
                  obtain ⟨bq, ebq⟩ : ∃ z, z = lenY Q R.length := ⟨_, rfl⟩
                  obtain ⟨bd, ebd⟩ : ∃ z, z = lenY D1 R.length := ⟨_, rfl⟩
                  rw [← ebq] at hfl hq72 ⊢
                  rw [← ebd] at hfl hd72 ⊢
                  clear e1 e2 ebq ebd
                  have c0 := (unhide HOC _ (unhide HK)).1
                  have b1 := (unhide HB).cell (i := 1) rfl
                  by_cases h0 : D3 = 0
                  case neg =>
                    have g0 : (D3 == 0) = false := by simp [h0]
                    have hbb : bd = bq := by
                      rw [if_neg (fun e => h0 e.1), if_neg (fun e => h0 e.1)] at hfl
                      omega
                    subst hbb
                    clear hfl
                    have hne : ((bd : Int) != (bd : Int)) = false := by simp
                    go_upto_region 33 with (fail)
                    clear q0 q1 c0 b1
                    have q0 := (unhide HX).cell (i := 0) rfl
                    have q1 := (unhide HX).cell (i := 1) rfl
                    have b0 := (unhide HB).cell (i := 0) rfl
                    have b1 := (unhide HB).cell (i := 1) rfl
                    have f0 := (unhide HB).frozen 0
                    have f1 := (unhide HB).frozen 1
                    obtain ⟨w8, ew8⟩ : ∃ z, z = (w6.setCell ⟨gn, 0, none⟩ (.int .i64 H)).setCell ⟨gn, 1, none⟩ (.slice (some ⟨gq, 0, none⟩) R.length cap) := ⟨_, rfl⟩
                    have hKS : Kept (fun b => b = gn) w6 w8 := by rw [ew8]; exact ((Kept.refl (fun b => b = gn) _).setCell (p := ⟨gn, 0, none⟩) rfl _).setCell (p := ⟨gn, 1, none⟩) rfl _
                    have HB8 : Hid (OwnV w8 gn [.int .i64 H, .slice (some ⟨gq, 0, none⟩) R.length cap]) := by show OwnV _ _ _; rw [ew8]; exact ((unhide HB).set 0 _ (by simp)).set 1 _ (by simp)
                    have HK8 := hide ((unhide HK).trans hKS)
                    have HO8 := hide ((unhide HOR).kept hKS (fun b h1 h2 e => by have e : b = gn := e; omega))
                    clear hKS HK HKR HOR
                    have HE8 := hide ew8
                    clear ew8
                    go_wp2
                    go_roundg (M.length - (i + 1))
                    case measure => have := unhide HGI; omega
                    case rel =>
                      rw [← unhide HE8]
                      exact ⟨i + 1, _, _, by omega, rfl, by go_num, HK8, HB8, by show Stays gn _ _ _; rw [unhide HR1]; exact fun W' k => ((unhide HO8).kept k (fun b h1 h2 e => by have e : b = gn := e; omega)).inn⟩
                  subst h0
                  by_cases hk1 : x0 = 1
                  case pos =>
                    subst hk1
                    have hbb : bd = bq + 1 := by
                      rw [if_pos ⟨rfl, rfl⟩, if_neg (fun e => absurd e.2 (by decide))] at hfl
                      omega
                    subst hbb
                    clear hfl
                    have hwr : IntKind.i64.wrap ((bq : Int) + 1) = ((bq + 1 : Nat) : Int) := by rw [IntKind.wrap_i64]; omega
                    have hne : (((bq + 1 : Nat) : Int) != ((bq + 1 : Nat) : Int)) = false := by simp
                    go_upto_region 33 with (fail)
                    clear q0 q1 c0 b1
                    have q0 := (unhide HX).cell (i := 0) rfl
                    have q1 := (unhide HX).cell (i := 1) rfl
                    have b0 := (unhide HB).cell (i := 0) rfl
                    have b1 := (unhide HB).cell (i := 1) rfl
                    have f0 := (unhide HB).frozen 0
                    have f1 := (unhide HB).frozen 1
                    obtain ⟨w8, ew8⟩ : ∃ z, z = (w6.setCell ⟨gn, 0, none⟩ (.int .i64 H)).setCell ⟨gn, 1, none⟩ (.slice (some ⟨gq, 0, none⟩) R.length cap) := ⟨_, rfl⟩
                    have hKS : Kept (fun b => b = gn) w6 w8 := by rw [ew8]; exact ((Kept.refl (fun b => b = gn) _).setCell (p := ⟨gn, 0, none⟩) rfl _).setCell (p := ⟨gn, 1, none⟩) rfl _
                    have HB8 : Hid (OwnV w8 gn [.int .i64 H, .slice (some ⟨gq, 0, none⟩) R.length cap]) := by show OwnV _ _ _; rw [ew8]; exact ((unhide HB).set 0 _ (by simp)).set 1 _ (by simp)
                    have HK8 := hide ((unhide HK).trans hKS)
                    have HO8 := hide ((unhide HOR).kept hKS (fun b h1 h2 e => by have e : b = gn := e; omega))
                    clear hKS HK HKR HOR
                    have HE8 := hide ew8
                    clear ew8
                    go_wp2
                    go_roundg (M.length - (i + 1))
                    case measure => have := unhide HGI; omega
                    case rel =>
                      rw [← unhide HE8]
                      exact ⟨i + 1, _, _, by omega, rfl, by go_num, HK8, HB8, by show Stays gn _ _ _; rw [unhide HR1]; exact fun W' k => ((unhide HO8).kept k (fun b h1 h2 e => by have e : b = gn := e; omega)).inn⟩
                  have g1 : (x0 == 1) = false := by simp [hk1]
                  by_cases hk2 : x0 = 2
                  case neg =>
                    have g2 : (x0 == 2) = false := by simp [hk2]
                    have hbb : bd = bq := by
                      rw [if_neg (fun e => hk1 e.2), if_neg (fun e => hk2 e.2)] at hfl
                      omega
                    subst hbb
                    clear hfl
                    have hne : ((bd : Int) != (bd : Int)) = false := by simp
                    go_upto_region 33 with (fail)
                    clear q0 q1 c0 b1
                    have q0 := (unhide HX).cell (i := 0) rfl
                    have q1 := (unhide HX).cell (i := 1) rfl
                    have b0 := (unhide HB).cell (i := 0) rfl
                    have b1 := (unhide HB).cell (i := 1) rfl
                    have f0 := (unhide HB).frozen 0
                    have f1 := (unhide HB).frozen 1
                    obtain ⟨w8, ew8⟩ : ∃ z, z = (w6.setCell ⟨gn, 0, none⟩ (.int .i64 H)).setCell ⟨gn, 1, none⟩ (.slice (some ⟨gq, 0, none⟩) R.length cap) := ⟨_, rfl⟩
                    have hKS : Kept (fun b => b = gn) w6 w8 := by rw [ew8]; exact ((Kept.refl (fun b => b = gn) _).setCell (p := ⟨gn, 0, none⟩) rfl _).setCell (p := ⟨gn, 1, none⟩) rfl _
                    have HB8 : Hid (OwnV w8 gn [.int .i64 H, .slice (some ⟨gq, 0, none⟩) R.length cap]) := by show OwnV _ _ _; rw [ew8]; exact ((unhide HB).set 0 _ (by simp)).set 1 _ (by simp)
                    have HK8 := hide ((unhide HK).trans hKS)
                    have HO8 := hide ((unhide HOR).kept hKS (fun b h1 h2 e => by have e : b = gn := e; omega))
                    clear hKS HK HKR HOR
                    have HE8 := hide ew8
                    clear ew8
                    go_wp2
                    go_roundg (M.length - (i + 1))
                    case measure => have := unhide HGI; omega
                    case rel =>
                      rw [← unhide HE8]
                      exact ⟨i + 1, _, _, by omega, rfl, by go_num, HK8, HB8, by show Stays gn _ _ _; rw [unhide HR1]; exact fun W' k => ((unhide HO8).kept k (fun b h1 h2 e => by have e : b = gn := e; omega)).inn⟩
                  subst hk2
                  clear hk1 g1
                  have hbb : bq = bd + 1 := by
                    rw [if_neg (fun e => absurd e.2 (by decide)), if_pos ⟨rfl, rfl⟩] at hfl
                    omega
                  obtain ⟨pq, hp1, hp2⟩ := unhide HOU rfl (by rw [← unhide HED])
                  rw [← unhide HED] at hp2
                  dsimp only at hp2
                  rw [unhide HFS] at hp1
                  simp only [Option.some.injEq] at hp1
                  subst hp1
                  dsimp only at hp2
                  subst hbb
                  clear hfl
                  have hwr : IntKind.i64.wrap (((bd + 1 : Nat) : Int) - 1) = (bd : Int) := by rw [IntKind.wrap_i64]; omega
                  have hwp : ((bd + 1 : Nat) : Int) - 1 = (bd : Int) := by omega
                  have hne : ((bd : Int) != (bd : Int)) = false := by simp
                  obtain ⟨xa, xc, ex, hx1, hx2, hrow⟩ := unhide HNS _ (unhide HKR)
                  unfold maxLen at hx2
                  simp only [Value.slice.injEq] at ex
                  obtain ⟨rfl, -, rfl⟩ := ex
                  obtain ⟨rb', ro', vr, ea, hcell, hin⟩ := hrow s1 (by rw [unhide HQL]; exact pb1)
                  simp only [Option.some.injEq, Addr.mk.injEq, and_true] at ea
                  obtain ⟨rfl, rfl⟩ := ea
                  have pb2 := unhide PB2
                  obtain ⟨ar', ro2', ln', cr', rfl, eln', h1, h2, -⟩ := ints_cell hin pb2
                  unfold maxLen at h2
                  rw [← eln'] at hp2 pb2 h1
                  have hw1 : IntKind.i64.wrap ((ln' : Int) - (s2 : Int)) = (ln' : Int) - (s2 : Int) := by rw [IntKind.wrap_i64]; omega
                  have hw2 : IntKind.i64.wrap ((ln' : Int) - (s2 : Int) - 1) = (ln' : Int) - (s2 : Int) - 1 := by rw [IntKind.wrap_i64]; omega
                  have hn2 : (((ln' : Int) - (s2 : Int) - 1) != ((ln' : Int) - (s2 : Int) - 1)) = false := by simp
                  subst hp2
                  clear hrow hin eln' hx1
                  go_upto_region 33 with (fail)
                  clear hn2 hw1 hw2 hwr hwp hne hcell
                  clear q0 q1 c0 b1
                  have q0 := (unhide HX).cell (i := 0) rfl
                  have q1 := (unhide HX).cell (i := 1) rfl
                  have b0 := (unhide HB).cell (i := 0) rfl
                  have b1 := (unhide HB).cell (i := 1) rfl
                  have f0 := (unhide HB).frozen 0
                  have f1 := (unhide HB).frozen 1
                  obtain ⟨w8, ew8⟩ : ∃ z, z = (w6.setCell ⟨gn, 0, none⟩ (.int .i64 H)).setCell ⟨gn, 1, none⟩ (.slice (some ⟨gq, 0, none⟩) R.length cap) := ⟨_, rfl⟩
                  have hKS : Kept (fun b => b = gn) w6 w8 := by rw [ew8]; exact ((Kept.refl (fun b => b = gn) _).setCell (p := ⟨gn, 0, none⟩) rfl _).setCell (p := ⟨gn, 1, none⟩) rfl _
                  have HB8 : Hid (OwnV w8 gn [.int .i64 H, .slice (some ⟨gq, 0, none⟩) R.length cap]) := by show OwnV _ _ _; rw [ew8]; exact ((unhide HB).set 0 _ (by simp)).set 1 _ (by simp)
                  have HK8 := hide ((unhide HK).trans hKS)
                  have HO8 := hide ((unhide HOR).kept hKS (fun b h1 h2 e => by have e : b = gn := e; omega))
                  clear hKS HK HKR HOR
                  have HE8 := hide ew8
                  clear ew8
                  go_wp2
                  go_roundg (M.length - (i + 1))
                  case measure => have := unhide HGI; omega
                  case rel =>
                    rw [← unhide HE8]
                    exact ⟨i + 1, _, _, by omega, rfl, by go_num, HK8, HB8, by show Stays gn _ _ _; rw [unhide HR1]; exact fun W' k => ((unhide HO8).kept k (fun b h1 h2 e => by have e : b = gn := e; omega)).inn⟩
    · skip
      obtain rfl : i = M.length := by omega
      clear hin hi
      have hRl := unhide HRL M.length
      have HRN := hide fun V (hV : RowsIn V (.slice ao R.length R.length) R) (hO : RYardOp V (.slice bo M.length oc) M) h1 h2 h3 => implRunYard_any H (.slice ao R.length R.length) R (.slice bo M.length oc) M V hV hO h1 h2 h3
      rw [rn_few (show M.length ≤ 200 by omega)] at HRN
      have hcl := cds_len H R M M.length
      obtain ⟨Q, eQ⟩ : ∃ z, z = (stY H R M M.length).1 := ⟨_, rfl⟩
      obtain ⟨sm, es⟩ : ∃ z, z = (stY H R M M.length).2 := ⟨_, rfl⟩
      obtain ⟨cs, ec⟩ : ∃ z, z = cdsY H R M M.length := ⟨_, rfl⟩
      rw [← eQ, ← es, ← ec] at HRN
      rw [← eQ] at hRl HNS
      rw [← ec] at hcl
      have HQL := hide hRl
      have HCL := hide hcl
      have hrl : ∀ s, s < R.length → (R.getD s []).length ≤ 1048576 := fun s hs => by
        have h1 := (unhide HOK).low s hs
        have h2 := (unhide HOK).h2
        omega
      have HRL2 := hide hrl
      clear eQ es ec hRl hcl hrl HRL HRO
      unfold yardV at HRN
      have H3b := hide ((unhide H3).kept (unhide HKV) (fun e => by have e : g3 = gn := e; omega))
      have y0 := (unhide H3b).cell (i := 0) rfl
      have y1 := (unhide H3b).cell (i := 1) rfl
      go_wp2_with fail
      refine (unhide HRN _ (unhide HYS _ (unhide HKV)) (unhide HOS _ (unhide HKV)) (by omega) (unhide HRL2) (by omega)).mono ?_
      intro e w3 hans
      obtain ⟨yv, cv, B1, U1, B2, U2, gz, cz, co, cn, cc, e1, rfl, rfl, hor, hoc, hB1, -, hU1, -, -, hb⟩ := hans
      dsimp only at e1 hor hoc
      rw [unhide HQL] at e1 hor
      obtain ⟨ca, cb, ecv, -, -, -⟩ := hoc
      simp only [Value.slice.injEq] at ecv
      obtain ⟨-, ecn, -⟩ := ecv
      rw [unhide HCL] at ecn
      subst ecn
      subst e1
      unfold yardV
      have HB3 := hide ((unhide HB).step hb)
      have HN3 := hide ((unhide HNS).kept (kept_gn hb)).here
      have HO3 := hide hor.inn
      have HW3 := hide (Below.step ((unhide HW).trans ((unhide HKV).below (unhide HW).size (fun b e => by have e : b = gn := e; omega))) hb)
      clear hb hor y0 y1 HB HNS HRN H3 H3b HYS HOS hB1 hU1
      obtain ⟨gw, egw⟩ : ∃ z, z = w3.heap.size := ⟨_, rfl⟩
      obtain ⟨w4, ew4⟩ : ∃ z, z = w3.alloc (.cells #[.int .i64 H, .slice (some ⟨gz, 0, none⟩) R.length cz] 26) := ⟨_, rfl⟩
      have hb : Below w3.heap.size w3 w4 := by rw [ew4]; exact Below.alloc1 _ _
      have HX : Hid (OwnV w4 gw [.int .i64 H, .slice (some ⟨gz, 0, none⟩) R.length cz]) := by rw [ew4, egw]; exact ownV_alloc _ _ _
      go_upto_region 35 with (fail)
      rw [← ew4, ← egw]
      replace HB3 := hide ((unhide HB3).step hb)
      replace HN3 := hide ((unhide HN3).below hb)
      replace HO3 := hide ((unhide HO3).below hb)
      replace HW3 := hide (Below.step (unhide HW3) hb)
      clear hb ew4 egw
      have x1 := (unhide HX).cell (i := 1) rfl
      have b1 := (unhide HB3).cell (i := 1) rfl
      have hnn : ((R.length : Int) != (R.length : Int)) = false := by simp
      go_wp2
      go_loopg [21] R.length (fun gm sv wr2 => ∃ s : Nat, s ≤ R.length ∧ gm = R.length - s ∧ sv = .int .i64 s ∧ Hid (Below w4.heap.size w4 wr2))
      case atStart => exact ⟨0, Nat.zero_le _, rfl, rfl, hide (Below.refl _ _)⟩
      case round =>
        obtain ⟨s, hs, hgm, rfl, HBL⟩ := hrel
        have HGM := hide hgm
        clear hgm x1 b1
        generalize hw9 : wr = w5 at *
        clear hw9
        replace HB3 := hide ((unhide HB3).step (unhide HBL))
        replace HX := hide ((unhide HX).step (unhide HBL))
        replace HN3 := hide ((unhide HN3).below (unhide HBL))
        replace HO3 := hide ((unhide HO3).below (unhide HBL))
        have x1 := (unhide HX).cell (i := 1) rfl
        have b1 := (unhide HB3).cell (i := 1) rfl
        by_cases hsn : s < R.length
        · skip
          obtain ⟨xa, xc, ex, hx1, hx2, hrow⟩ := unhide HN3
          unfold maxLen at hx2
          simp only [Value.slice.injEq] at ex
          obtain ⟨rfl, -, rfl⟩ := ex
          obtain ⟨rb, ro, vr, ea, hcell, hin⟩ := hrow s (by rw [unhide HQL]; exact hsn)
          subst ea
          obtain ⟨xa, xc, ex, hx3, hx4, hrow2⟩ := unhide HO3
          unfold maxLen at hx4
          simp only [Value.slice.injEq] at ex
          obtain ⟨rfl, -, rfl⟩ := ex
          obtain ⟨rb2, ro2, vr2, ea, hcell2, hin2⟩ := hrow2 s (by rw [unhide HQL]; exact hsn)
          simp only [Option.some.injEq, Addr.mk.injEq, and_true] at ea
          obtain ⟨rfl, rfl⟩ := ea
          rw [Nat.zero_add] at hcell2
          have HI1 := hide hin
          have HI2 := hide hin2
          clear hrow hrow2 hin hin2 hx1 hx3
          go_wp2_with fail
          obtain ⟨wd, ewd⟩ : ∃ z, z = w5.drew := ⟨_, rfl⟩
          have hb : Below w5.heap.size w5 wd := by rw [ewd]; exact (Below.refl _ _).drew
          have hhd : wd.cell? ⟨gw, 1, none⟩ = some (.slice (some ⟨gz, 0, none⟩) R.length cz) ∧ wd.cell? ⟨gn, 1, none⟩ = some (.slice (some ⟨rb, ro, none⟩) R.length nc) ∧ wd.cell? ⟨rb, ro + s, none⟩ = some vr ∧ wd.cell? ⟨gz, s, none⟩ = some vr2 := ⟨(hb.cell (lt_of_cell x1)).trans x1, (hb.cell (lt_of_cell b1)).trans b1, (hb.cell (lt_of_cell hcell)).trans hcell, (hb.cell (lt_of_cell hcell2)).trans hcell2⟩
          have hh5 := hhd
          rw [ewd] at hhd
          replace HI1 := hide ((unhide HI1).below hb)
          replace HI2 := hide ((unhide HI2).below hb)
          replace HBL := hide (Below.step (unhide HBL) hb)
          clear hb
          refine wp_region_held_drew (S := fun w' => w'.cell? ⟨gw, 1, none⟩ = some (.slice (some ⟨gz, 0, none⟩) R.length cz) ∧ w'.cell? ⟨gn, 1, none⟩ = some (.slice (some ⟨rb, ro, none⟩) R.length nc) ∧ w'.cell? ⟨rb, ro + s, none⟩ = some vr ∧ w'.cell? ⟨gz, s, none⟩ = some vr2) (by kernel_rfl) hhd (fun hHeld => ?_)
          clear hhd
          rw [← ewd] at hHeld ⊢
          clear ewd
          refine wpAnyH_take (i := 0) (v := ?_) rfl (by kernel_rfl) (by kernel_rfl) (by kernel_rfl) (fun _ _ _ h => h) (Or.inl ⟨by rfl, ?_⟩) (by assumption) ?_
          rotate_left
          · intro wy hSw
            obtain ⟨hS0, hS1, hS2, hS3⟩ := hSw
            go_simp
            try with_reducible rfl
          try simp only [Act.put, List.getElem_toArray, List.getElem_cons_zero, List.setIfInBounds_toArray, List.set_cons_zero, List.set_cons_succ]
          refine wpAnyH_take (i := 1) (v := ?_) rfl (by kernel_rfl) (by kernel_rfl) (by kernel_rfl) (fun _ _ _ h => h) (Or.inl ⟨by rfl, ?_⟩) (by assumption) ?_
          rotate_left
          · intro wy hSw
            obtain ⟨hS0, hS1, hS2, hS3⟩ := hSw
            go_simp
            try with_reducible rfl
          try simp only [Act.put, List.getElem_toArray, List.getElem_cons_succ, List.getElem_cons_zero, List.setIfInBounds_toArray, List.set_cons_zero, List.set_cons_succ]
          refine wpAnyH_take (i := 2) (v := ?_) rfl (by kernel_rfl) (by kernel_rfl) (by kernel_rfl) (fun _ _ _ h => h) (Or.inl ⟨by rfl, ?_⟩) (by assumption) ?_
          rotate_left
          · intro wy hSw
            obtain ⟨hS0, hS1, hS2, hS3⟩ := hSw
            go_simp
            try with_reducible rfl
          try simp only [Act.put, List.getElem_toArray, List.getElem_cons_succ, List.getElem_cons_zero, List.setIfInBounds_toArray, List.set_cons_zero, List.set_cons_succ]
          refine wpAnyH_take (i := 3) (v := ?_) rfl (by kernel_rfl) (by kernel_rfl) (by kernel_rfl) (fun _ _ _ h => h) (Or.inl ⟨by rfl, ?_⟩) (by assumption) ?_
          rotate_left
          · intro wy hSw
            obtain ⟨hS0, hS1, hS2, hS3⟩ := hSw
            go_simp
            try with_reducible rfl
          try simp only [Act.put, List.getElem_toArray, List.getElem_cons_succ, List.getElem_cons_zero, List.setIfInBounds_toArray, List.set_cons_zero, List.set_cons_succ]
          refine wpAnyH_take (i := 4) (v := ?_) rfl (by kernel_rfl) (by kernel_rfl) (by kernel_rfl) (fun _ _ _ h => h) (Or.inl ⟨by rfl, ?_⟩) (by assumption) ?_
          rotate_left
          · intro wy hSw
            obtain ⟨hS0, hS1, hS2, hS3⟩ := hSw
            go_simp
            try with_reducible rfl
          try simp only [Act.put, List.getElem_toArray, List.getElem_cons_succ, List.getElem_cons_zero, List.setIfInBounds_toArray, List.set_cons_zero, List.set_cons_succ]
          refine wpAnyH_take (i := 5) (v := ?_) rfl (by kernel_rfl) (by kernel_rfl) (by kernel_rfl) (fun _ _ _ h => h) (Or.inl ⟨by rfl, ?_⟩) (by assumption) ?_
          rotate_left
          · intro wy hSw
            obtain ⟨hS0, hS1, hS2, hS3⟩ := hSw
            go_simp
            try with_reducible rfl
          try simp only [Act.put, List.getElem_toArray, List.getElem_cons_succ, List.getElem_cons_zero, List.setIfInBounds_toArray, List.set_cons_zero, List.set_cons_succ]
          refine wpAnyH_take (i := 6) (v := ?_) rfl (by kernel_rfl) (by kernel_rfl) (by kernel_rfl) (fun _ _ _ h => h) (Or.inl ⟨by rfl, ?_⟩) (by assumption) ?_
          rotate_left
          · intro wy hSw
            obtain ⟨hS0, hS1, hS2, hS3⟩ := hSw
            go_simp
            try with_reducible rfl
          try simp only [Act.put, List.getElem_toArray, List.getElem_cons_succ, List.getElem_cons_zero, List.setIfInBounds_toArray, List.set_cons_zero, List.set_cons_succ]
          refine wpAnyH_take (i := 7) (v := ?_) rfl (by kernel_rfl) (by kernel_rfl) (by kernel_rfl) (fun _ _ _ h => h) (Or.inl ⟨by rfl, ?_⟩) (by assumption) ?_
          rotate_left
          · intro wy hSw
            obtain ⟨hS0, hS1, hS2, hS3⟩ := hSw
            go_simp
            try with_reducible rfl
          try simp only [Act.put, List.getElem_toArray, List.getElem_cons_succ, List.getElem_cons_zero, List.setIfInBounds_toArray, List.set_cons_zero, List.set_cons_succ]
          refine wpAnyH_take (i := 8) (v := ?_) rfl (by kernel_rfl) (by kernel_rfl) (by kernel_rfl) (fun _ _ _ h => h) (Or.inl ⟨by rfl, ?_⟩) (by assumption) ?_
          rotate_left
          · intro wy hSw
            obtain ⟨hS0, hS1, hS2, hS3⟩ := hSw
            go_simp
            try with_reducible rfl
          try simp only [Act.put, List.getElem_toArray, List.getElem_cons_succ, List.getElem_cons_zero, List.setIfInBounds_toArray, List.set_cons_zero, List.set_cons_succ]
          refine wpAnyH_take (i := 9) (v := ?_) rfl (by kernel_rfl) (by kernel_rfl) (by kernel_rfl) (fun _ _ _ h => h) (Or.inl ⟨by rfl, ?_⟩) (by assumption) ?_
          rotate_left
          · intro wy hSw
            obtain ⟨hS0, hS1, hS2, hS3⟩ := hSw
            go_simp
            try with_reducible rfl
          try simp only [Act.put, List.getElem_toArray, List.getElem_cons_succ, List.getElem_cons_zero, List.setIfInBounds_toArray, List.set_cons_zero, List.set_cons_succ]
          refine wpAnyH_ready (rs := [10]) (by kernel_rfl) (by simp) ?_
          refine AllReadyH.cons rfl (fun K hK => ?_) AllReadyH.nil
          go_simp
          refine (sameInts_any vr2 vr _ _ (unhide HI2) (unhide HI1)).mono ?_
          rintro e w6 ⟨rfl, hb⟩
          replace HBL := hide (Below.step (unhide HBL) hb)
          obtain ⟨k1, k2, k3, k4⟩ := hh5
          refine hK.out _ _ ⟨(hb.cell (lt_of_cell k1)).trans k1, (hb.cell (lt_of_cell k2)).trans k2, (hb.cell (lt_of_cell k3)).trans k3, (hb.cell (lt_of_cell k4)).trans k4⟩ (fun hHeld => ?_)
          clear hK K
          try simp only [Act.put, List.setIfInBounds_toArray, List.set_cons_zero, List.set_cons_succ]
          refine wpAnyH_take (i := 11) (v := ?_) rfl (by kernel_rfl) (by kernel_rfl) (by kernel_rfl) (fun _ _ _ h => h) (Or.inl ⟨by rfl, ?_⟩) (by assumption) ?_
          rotate_left
          · intro wy hSw
            obtain ⟨hS0, hS1, hS2, hS3⟩ := hSw
            go_simp
            try with_reducible rfl
          try simp only [Act.put, List.getElem_toArray, List.getElem_cons_succ, List.getElem_cons_zero, List.setIfInBounds_toArray, List.set_cons_zero, List.set_cons_succ]
          refine wpAnyH_done (by kernel_rfl) ?_ _
          clear hb k1 k2 k3 k4 x1 b1 hcell hcell2
          go_wp2
          go_roundg (R.length - (s + 1))
          case measure => have := unhide HGM; omega
          case rel => exact ⟨s + 1, by omega, rfl, by go_num, HBL⟩
        · skip
          obtain rfl : s = R.length := by omega
          have hmm : ((M.length : Int) == (M.length : Int)) = true := by simp
          go_wp2
          go_ret
          exact ⟨rfl, Below.step (unhide HW3) (unhide HBL)⟩

end Go.Proofs.Ytjllilmiloippaa
