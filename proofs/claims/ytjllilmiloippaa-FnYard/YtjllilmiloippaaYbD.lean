/- The program's groundOf. Written by wip/mkybd.py. -/
import Derived.Test.YtjllilmiloippaaYbC
import Derived.Deep.RegionLaw
namespace Go.Proofs.Ytjllilmiloippaa
open Go.RowKit

def idF (x : Int) : Int := x
theorem boxOf_id (x : Int) (w : World) : Calls Try.prog 86 #[.int .i64 x] w fun e w' => e = .returned (.int .i64 (idF x)) ∧ Below w.heap.size w w' := boxOf_any x w

/-- A stack as a pile, its boxes told by f. -/
def pil (f : Int → Int) (r : List Int) : List Int := (r.map f).reverse
def pilF (f : Int → Int) (R : List (List Int)) : List (List Int) := R.map (pil f)
theorem pilF_len (f : Int → Int) (R : List (List Int)) : (pilF f R).length = R.length := by simp [pilF]
theorem pilF_get (f : Int → Int) {R : List (List Int)} {s : Nat} (h : s < R.length) : (pilF f R).getD s [] = pil f (R.getD s []) := by simp [pilF, List.getD, h]
theorem pil_len (f : Int → Int) (r : List Int) : (pil f r).length = r.length := by simp [pil]
theorem pil_succ (f : Int → Int) {r : List Int} {j : Nat} (h : j < r.length) : pil f (r.take (j + 1)) = f (r.getD j 0) :: pil f (r.take j) := by
  unfold pil
  rw [List.take_add_one, getD_lt h, List.getElem?_eq_getElem h]
  simp only [Option.toList_some, List.map_append, List.map_cons, List.map_nil, List.reverse_append, List.reverse_cons, List.reverse_nil, List.nil_append, List.singleton_append]

/-- The piles while they are filled. -/
structure MidP (f : Int → Int) (R : List (List Int)) (k j : Nat) (P : List (List Int)) : Prop where
  len : P.length = R.length
  done : ∀ s, s < k → s < R.length → P.getD s [] = pil f (R.getD s [])
  now : k < R.length → P.getD k [] = pil f ((R.getD k []).take j)
  later : ∀ s, k < s → s < R.length → P.getD s [] = []
theorem midP_start (f : Int → Int) (R : List (List Int)) : MidP f R 0 0 (List.replicate R.length []) :=
  ⟨by simp, fun s hs _ => absurd hs (Nat.not_lt_zero s), fun h => by simp [pil, List.getD, h], fun s _ hs => by simp [List.getD, hs]⟩
theorem MidP.step {f : Int → Int} {R P : List (List Int)} {k j : Nat} (h : MidP f R k j P) (hk : k < R.length) (hj : j < (R.getD k []).length) : MidP f R k (j + 1) (P.set k (f ((R.getD k []).getD j 0) :: P.getD k [])) := by
  have hkP : k < P.length := by rw [h.len]; exact hk
  refine ⟨by rw [List.length_set, h.len], fun s hs hl => ?_, fun _ => ?_, fun s hs hl => ?_⟩
  · have e : s ≠ k := by omega
    have := h.done s hs hl
    simpa [List.getD, List.getElem?_set_ne (fun x => e x.symm)] using this
  · rw [pil_succ f hj, ← h.now hk]
    simp [List.getD, hkP]
  · have e : s ≠ k := by omega
    have := h.later s hs hl
    simpa [List.getD, List.getElem?_set_ne (fun x => e x.symm)] using this
theorem MidP.next {f : Int → Int} {R P : List (List Int)} {k : Nat} (h : MidP f R k (R.getD k []).length P) : MidP f R (k + 1) 0 P := by
  refine ⟨h.len, fun s hs hl => ?_, fun hk => ?_, fun s hs hl => h.later s (by omega) hl⟩
  · by_cases e : s = k
    · subst e
      rw [h.now hl, List.take_length]
    · exact h.done s (by omega) hl
  · rw [h.later (k + 1) (by omega) hk]; simp [pil]
theorem MidP.all {f : Int → Int} {R P : List (List Int)} {k : Nat} (h : MidP f R k 0 P) (hk : k = R.length) : P = pilF f R := by
  apply List.ext_getElem?
  intro i
  by_cases hi : i < R.length
  · have h1 := h.done i (by omega) hi
    have hiP : i < P.length := by rw [h.len]; exact hi
    have hiQ : i < (pilF f R).length := by rw [pilF_len]; exact hi
    rw [← pilF_get f hi, getD_lt hiP, getD_lt hiQ] at h1
    rw [List.getElem?_eq_getElem hiP, List.getElem?_eq_getElem hiQ, h1]
  · rw [List.getElem?_eq_none (by rw [h.len]; omega), List.getElem?_eq_none (by rw [pilF_len]; omega)]

theorem below_kept {T : Nat → Prop} {a w w' : World} {B : Nat} (h : Below B a w) (hk : Kept T w w') (hB : B ≤ w.heap.size) (hT : ∀ k, T k → B ≤ k) : Below B a w' := h.trans (hk.below hB hT)

theorem made_piles (n : Nat) : (madeCells #[.pointer none, .int .i64 0] (n * 2)).toList = recCells 2 ePl (List.replicate n (none, 0)) := by
  apply List.ext_getElem?
  intro q
  by_cases hq : q < n * 2
  · have hd : q / 2 < (List.replicate n ((none, 0) : Option Addr × Nat)).length := by rw [List.length_replicate]; omega
    have e := recCells_get (enc := ePl) (L := List.replicate n (none, 0)) (n := 2) (i := q / 2) (j := q % 2) hd (by omega)
    rw [show q / 2 * 2 + q % 2 = q by omega] at e
    rw [e]
    have e2 : (List.replicate n ((none, 0) : Option Addr × Nat)).getD (q / 2) default = (none, 0) := by simp [List.getD, show q / 2 < n by omega]
    rw [e2]
    rcases Nat.mod_two_eq_zero_or_one q with h | h <;> simp [madeCells, hq, h, ePl]
  · rw [List.getElem?_eq_none (by simp [madeCells]; omega), List.getElem?_eq_none (by rw [recCells_length, List.length_replicate]; omega)]
theorem gnd_made (w : World) (n : Nat) (t : TypeId) : Gnd (w.alloc (.cells (madeCells #[.pointer none, .int .i64 0] (n * 2)) t)) w.heap.size (List.replicate n (none, 0)) (List.replicate n []) := by
  have h := ownV_alloc w (madeCells #[.pointer none, .int .i64 0] (n * 2)) t
  rw [made_piles] at h
  refine ⟨h, by simp, fun s hs => ?_, fun s hs => ?_⟩
  · rw [List.length_replicate] at hs
    simp [List.getD, hs, Lnk]
  · rw [List.length_replicate] at hs
    simp [List.getD, hs]

set_option maxRecDepth 10000 in
theorem Try.infoPileI : (Try.prog.info? 115).map (fun i => (i.zero, i.size, i.bytes)) = some (some (.agg #[.pointer none, .int .i64 0]), 2, 16) := by kernel_rfl

set_option maxRecDepth 10000 in
set_option maxHeartbeats 6400000 in
theorem groundOfI_any (H : Int) (v : Value) (R : List (List Int)) (w : World) (h : RowsIn w v R) (hy : YOk H R) :
    Calls Try.prog 85 #[yardV H v, .func (.func 86) #[] #[]] w fun e w' => ∃ g Z, e = .returned (gndV H g R.length R.length) ∧ w.heap.size ≤ g ∧ Gnd w' g Z (pilF idF R) ∧ Below w.heap.size w w' := by
  have HV := hide h
  have HQ := hide fun (x : Int) W (hb : Below w.heap.size w W) => boxOf_id x W
  skip
  obtain ⟨ao, cap, rfl, hc1, hc2⟩ := rows_cap h
  have hn1 := hy.n1
  have hn2 := hy.n2
  have HL6 : Hid (∀ s, s < R.length → (R.getD s []).length ≤ 6) := fun s hs => by have h1 := hy.low s hs; have h2 := hy.h2; omega
  generalize idF = f at HQ ⊢
  clear h hy
  obtain ⟨bb, ob, eao, hcl⟩ := rows_at (unhide HV) (by omega)
  subst eao
  have HCL := hide hcl
  clear hcl
  unfold yardV gndV
  have hmk := run_make_recs (P := Try.prog) 71 115 _ 2 16 Try.underlying71 Try.infoPileI .i64 .i64 R.length (by omega) (by omega)
  rw [show (Value.agg #[.pointer none, .int .i64 0]).cells = #[.pointer none, .int .i64 0] from rfl] at hmk
  go_enter Try.func85, Try.ntmps85
  go_upto_region 1 with (fail)
  obtain ⟨g0, eg0⟩ : ∃ z, z = w.heap.size := ⟨_, rfl⟩
  obtain ⟨W, eW⟩ : ∃ z, z = (w.alloc (.cells #[.int .i64 H, .slice (some ⟨bb, ob, none⟩) R.length cap] 26)).alloc (.cells #[.int .i64 0, .slice none 0 0] 73) := ⟨_, rfl⟩
  have HW : Hid (Below w.heap.size w W) := by rw [eW]; exact Below.step (Below.alloc1 _ _) (Below.alloc1 _ _)
  have HB : Hid (OwnV W g0 [.int .i64 H, .slice (some ⟨bb, ob, none⟩) R.length cap]) := by rw [eW, eg0]; exact (ownV_alloc _ _ _).step (Below.alloc1 _ _)
  have HA : Hid (OwnV W (g0 + 1) [.int .i64 0, .slice none 0 0]) := by rw [eW, eg0]; exact own_new _ _ _ _ (by simp)
  rw [← eW, ← eg0]
  have hg0 : w.heap.size ≤ g0 := by omega
  clear eW eg0
  have b1 := (unhide HB).cell (i := 1) rfl
  go_upto_region 2 with (fail)
  obtain ⟨gp, egp⟩ : ∃ z, z = W.heap.size := ⟨_, rfl⟩
  have hgg : g0 + 1 < gp := by rw [egp]; exact (unhide HA).lt
  obtain ⟨W2, eW2⟩ : ∃ z, z = W.alloc (.cells (madeCells #[.pointer none, .int .i64 0] (R.length * 2)) 115) := ⟨_, rfl⟩
  have HG : Hid (Gnd W2 gp (List.replicate R.length (none, 0)) (List.replicate R.length [])) := by rw [eW2, egp]; exact gnd_made _ _ _
  have hb2 : Below W.heap.size W W2 := by rw [eW2]; exact Below.alloc1 _ _
  rw [← eW2, ← egp]
  replace HW := hide (Below.step (unhide HW) hb2)
  replace HB := hide ((unhide HB).step hb2)
  replace HA := hide ((unhide HA).step hb2)
  clear eW2 egp hb2 b1 hmk
  have HM := hide (midP_start f R)
  have b1 := (unhide HB).cell (i := 1) rfl
  go_wp2
  clear b1
  go_loopg [17] R.length (fun gh iv wr => ∃ (k : Nat) (Z : List (Option Addr × Nat)) (P : List (List Int)), k ≤ R.length ∧ gh = R.length - k ∧ iv = .int .i64 k ∧ Hid (MidP f R k 0 P) ∧ Hid (Gnd wr gp Z P) ∧ Hid (Below w.heap.size w wr) ∧ Hid (OwnV wr g0 [.int .i64 H, .slice (some ⟨bb, ob, none⟩) R.length cap]) ∧ Hid (OwnV wr (g0 + 1) [.int .i64 0, .slice none 0 0]))
  case atStart => exact ⟨0, _, _, Nat.zero_le _, rfl, rfl, HM, HG, HW, HB, HA⟩
  case round =>
    clear HM HG HW HB HA
    obtain ⟨k, Z, P, hk, rfl, rfl, HM, HG, HW, HB, HA⟩ := hrel
    by_cases hkn : k < R.length
    · have hki : (k : Int) < R.length := by omega
      have hm6 := unhide HL6 k hkn
      obtain ⟨ar, m, cr, hcell0, hrow0, EM, hm1, hm2⟩ := unhide HCL w (Below.refl _ _) k hkn
      unfold maxLen at hm2
      have em := unhide EM
      rw [em] at hm6
      have hcell := ((unhide HW).cell (lt_of_cell hcell0)).trans hcell0
      have HROW := hide hrow0
      clear em hrow0 hcell0
      go_wp2
      clear hcell
      go_loopg [24] m (fun gh iv wr => ∃ (j : Nat) (Z : List (Option Addr × Nat)) (P : List (List Int)), j ≤ m ∧ gh = m - j ∧ iv = .int .i64 j ∧ Hid (MidP f R k j P) ∧ Hid (Gnd wr gp Z P) ∧ Hid (Below w.heap.size w wr) ∧ Hid (OwnV wr g0 [.int .i64 H, .slice (some ⟨bb, ob, none⟩) R.length cap]) ∧ Hid (OwnV wr (g0 + 1) [.int .i64 0, .slice none 0 0]))
      case atStart => exact ⟨0, Z, P, Nat.zero_le _, rfl, rfl, HM, HG, HW, HB, HA⟩
      case round =>
        clear HM HG HW HB HA
        obtain ⟨j, Z, P, hj, rfl, rfl, HM, HG, HW, HB, HA⟩ := hrel
        by_cases hjm : j < m
        · have hji : (j : Int) < m := by omega
          have hrow := (unhide HROW).below (unhide HW)
          obtain ⟨rb, ro, er, hxj⟩ := intAt hrow hjm
          subst er
          have hMN := (unhide HM).now hkn
          have hkP : k < P.length := by rw [(unhide HM).len]; exact hkn
          have hPL : (P.getD k []).length = j := by rw [hMN, pil_len, List.length_take, unhide EM]; omega
          have HM2 := hide ((unhide HM).step hkn (show j < (R.getD k []).length by rw [unhide EM]; exact hjm))
          obtain ⟨x, ex⟩ : ∃ x, (R.getD k []).getD j 0 = x := ⟨_, rfl⟩
          rw [ex] at hxj HM2
          clear ex hrow hMN
          obtain ⟨row, erow⟩ : ∃ row, P.getD k [] = row := ⟨_, rfl⟩
          have HPR := hide erow
          rw [erow] at HM2 hPL
          obtain ⟨p, ep⟩ : ∃ p, (Z.getD k default).1 = p := ⟨_, rfl⟩
          have EP := hide ep
          clear ep erow
          obtain ⟨y, ey⟩ : ∃ y, f x = y := ⟨_, rfl⟩
          have Q := hide (unhide HQ x)
          rw [ey] at Q HM2
          clear ey
          go_upto_region 8 with (fail)
          obtain ⟨wd, ewd⟩ : ∃ z, z = wr.drew := ⟨_, rfl⟩
          have hb : Below wr.heap.size wr wd := by rw [ewd]; exact (Below.refl _ _).drew
          replace HG := hide ((unhide HG).below hb)
          replace HB := hide ((unhide HB).step hb)
          replace HA := hide ((unhide HA).step hb)
          replace HW := hide (Below.step (unhide HW) hb)
          clear hb hxj
          refine wp_region_held_drew (S := fun w' => True) (by kernel_rfl) True.intro (fun hHeld => ?_)
          rw [← ewd]
          clear ewd
          refine wpAnyH_take (i := 0) (v := ?_) rfl (by kernel_rfl) (by kernel_rfl) (by kernel_rfl) (fun _ _ _ h => h) (Or.inl ⟨by rfl, ?_⟩) (by assumption) ?_
          rotate_left
          · intro wy hSw
            have hS0 := hSw
            go_simp
            try with_reducible rfl
          try simp only [Act.put, List.getElem_toArray, List.getElem_cons_zero, List.setIfInBounds_toArray, List.set_cons_zero, List.set_cons_succ]
          refine wpAnyH_take (i := 1) (v := ?_) rfl (by kernel_rfl) (by kernel_rfl) (by kernel_rfl) (fun _ _ _ h => h) (Or.inl ⟨by rfl, ?_⟩) (by assumption) ?_
          rotate_left
          · intro wy hSw
            have hS0 := hSw
            go_simp
            try with_reducible rfl
          try simp only [Act.put, List.getElem_toArray, List.getElem_cons_succ, List.getElem_cons_zero, List.setIfInBounds_toArray, List.set_cons_zero, List.set_cons_succ]
          refine wpAnyH_take (i := 2) (v := ?_) rfl (by kernel_rfl) (by kernel_rfl) (by kernel_rfl) (fun _ _ _ h => h) (Or.inl ⟨by rfl, ?_⟩) (by assumption) ?_
          rotate_left
          · intro wy hSw
            have hS0 := hSw
            go_simp
            try with_reducible rfl
          try simp only [Act.put, List.getElem_toArray, List.getElem_cons_succ, List.getElem_cons_zero, List.setIfInBounds_toArray, List.set_cons_zero, List.set_cons_succ]
          refine wpAnyH_take (i := 3) (v := ?_) rfl (by kernel_rfl) (by kernel_rfl) (by kernel_rfl) (fun _ _ _ h => h) (Or.inl ⟨by rfl, ?_⟩) (by assumption) ?_
          rotate_left
          · intro wy hSw
            have hS0 := hSw
            go_simp
            try with_reducible rfl
          try simp only [Act.put, List.getElem_toArray, List.getElem_cons_succ, List.getElem_cons_zero, List.setIfInBounds_toArray, List.set_cons_zero, List.set_cons_succ]
          refine wpAnyH_take (i := 4) (v := ?_) rfl (by kernel_rfl) (by kernel_rfl) (by kernel_rfl) (fun _ _ _ h => h) (Or.inl ⟨by rfl, ?_⟩) (by assumption) ?_
          rotate_left
          · intro wy hSw
            have hS0 := hSw
            go_simp
            try with_reducible rfl
          try simp only [Act.put, List.getElem_toArray, List.getElem_cons_succ, List.getElem_cons_zero, List.setIfInBounds_toArray, List.set_cons_zero, List.set_cons_succ]
          refine wpAnyH_take (i := 6) (v := ?_) rfl (by kernel_rfl) (by kernel_rfl) (by kernel_rfl) (fun _ _ _ h => h) (Or.inl ⟨by rfl, ?_⟩) (by assumption) ?_
          rotate_left
          · intro wy hSw
            have hS0 := hSw
            go_simp
            try with_reducible rfl
          try simp only [Act.put, List.getElem_toArray, List.getElem_cons_succ, List.getElem_cons_zero, List.setIfInBounds_toArray, List.set_cons_zero, List.set_cons_succ]
          refine wpAnyH_take (i := 7) (v := ?_) rfl (by kernel_rfl) (by kernel_rfl) (by kernel_rfl) (fun _ _ _ h => h) (Or.inl ⟨by rfl, ?_⟩) (by assumption) ?_
          rotate_left
          · intro wy hSw
            have hS0 := hSw
            go_simp
            try with_reducible rfl
          try simp only [Act.put, List.getElem_toArray, List.getElem_cons_succ, List.getElem_cons_zero, List.setIfInBounds_toArray, List.set_cons_zero, List.set_cons_succ]
          refine wpAnyH_ready (rs := [5, 8]) (by kernel_rfl) (by simp) ?_
          refine AllReadyH.cons rfl (fun K hK => ?_) (AllReadyH.cons rfl (fun K hK => ?_) AllReadyH.nil)
          · obtain ⟨p0, p1⟩ := (unhide HG).at hkP
            rw [unhide EP] at p0
            rw [unhide HPR, hPL] at p1
            go_simp
            clear p0 p1
            refine hK.out _ _ True.intro (fun hHeld => ?_)
            clear hK K
            try simp only [Act.put, List.setIfInBounds_toArray, List.set_cons_zero, List.set_cons_succ]
            refine wpAnyH_ready (rs := [8]) (by kernel_rfl) (by simp) ?_
            refine AllReadyH.cons rfl (fun K hK => ?_) AllReadyH.nil
            go_simp
            refine (unhide Q _ (unhide HW)).mono ?_
            rintro e w7 ⟨rfl, hb⟩
            replace HG := hide ((unhide HG).below hb)
            replace HB := hide ((unhide HB).step hb)
            replace HA := hide ((unhide HA).step hb)
            replace HW := hide (Below.step (unhide HW) hb)
            clear hb
            refine hK.out _ _ True.intro (fun hHeld => ?_)
            clear hK K
            try simp only [Act.put, List.setIfInBounds_toArray, List.set_cons_zero, List.set_cons_succ]
            refine wpAnyH_ready (rs := [9]) (by kernel_rfl) (by simp) ?_
            refine AllReadyH.cons rfl (fun K hK => ?_) AllReadyH.nil
            go_simp
            refine (withI_any p j y _ (by omega)).mono ?_
            rintro e w6 ⟨g5, rfl, ho5, hg5, hb⟩
            replace HG := hide ((unhide HG).below hb)
            replace HB := hide ((unhide HB).step hb)
            replace HA := hide ((unhide HA).step hb)
            replace HW := hide (Below.step (unhide HW) hb)
            clear hb
            have HL5 : Hid (Lnk w6 (y :: row) (some ⟨g5, 0, none⟩)) := ⟨g5, p, rfl, ho5, by have h1 := (unhide HG).lnk k hkP; rw [unhide HPR, unhide EP] at h1; exact h1⟩
            clear ho5
            refine hK.out _ _ True.intro (fun hHeld => ?_)
            clear hK K
            try simp only [Act.put, List.setIfInBounds_toArray, List.set_cons_zero, List.set_cons_succ]
            refine wpAnyH_take (i := 10) (v := ?_) rfl (by kernel_rfl) (by kernel_rfl) (by kernel_rfl) (fun _ _ _ h => h) (Or.inl ⟨by rfl, ?_⟩) (by assumption) ?_
            rotate_left
            · intro wy hSw
              have hS0 := hSw
              go_simp
              try with_reducible rfl
            try simp only [Act.put, List.getElem_toArray, List.getElem_cons_succ, List.getElem_cons_zero, List.setIfInBounds_toArray, List.set_cons_zero, List.set_cons_succ]
            refine wpAnyH_ready (rs := [11]) (by kernel_rfl) (by simp) ?_
            refine AllReadyH.cons rfl (fun K hK => ?_) AllReadyH.nil
            obtain ⟨p0, p1⟩ := (unhide HG).at hkP
            rw [unhide EP] at p0
            rw [unhide HPR, hPL] at p1
            have fr0 := (unhide HG).top.frozen (k * 2)
            have fr1 := (unhide HG).top.frozen (k * 2 + 1)
            have hgl := (unhide HG).top.lt
            have HN := hide ((unhide HG).put hkP (unhide HL5))
            have e5 : (y :: row).length = j + 1 := by rw [List.length_cons, hPL]
            rw [e5] at HN
            have HKS : Hid (Kept (fun b => b = gp) w6 ((w6.setCell ⟨gp, k * 2, none⟩ (.pointer (some ⟨g5, 0, none⟩))).setCell ⟨gp, k * 2 + 1, none⟩ (.int .i64 ((j + 1 : Nat) : Int)))) := ((Kept.refl (fun b => b = gp) _).setCell (p := ⟨gp, k * 2, none⟩) rfl _).setCell (p := ⟨gp, k * 2 + 1, none⟩) rfl _
            have hWB : Below w.heap.size w w6 := unhide HW
            go_simp
            clear p0 p1 fr0 fr1
            refine hK.out _ _ True.intro (fun hHeld => ?_)
            clear hK K
            try simp only [Act.put, List.setIfInBounds_toArray, List.set_cons_zero, List.set_cons_succ]
            refine wpAnyH_done (by kernel_rfl) ?_ _
            replace HW := hide (below_kept hWB (unhide HKS) hWB.size (fun b e => by omega))
            replace HB := hide ((unhide HB).kept (unhide HKS) (by omega))
            replace HA := hide ((unhide HA).kept (unhide HKS) (by omega))
            clear hWB HKS HG
            go_wp2
            go_roundg (m - (j + 1))
            case measure => omega
            case rel => exact ⟨j + 1, _, _, by omega, rfl, by go_num, HM2, HN, HW, HB, HA⟩
          · go_simp
            refine (unhide Q _ (unhide HW)).mono ?_
            rintro e w7 ⟨rfl, hb⟩
            replace HG := hide ((unhide HG).below hb)
            replace HB := hide ((unhide HB).step hb)
            replace HA := hide ((unhide HA).step hb)
            replace HW := hide (Below.step (unhide HW) hb)
            clear hb
            refine hK.out _ _ True.intro (fun hHeld => ?_)
            clear hK K
            try simp only [Act.put, List.setIfInBounds_toArray, List.set_cons_zero, List.set_cons_succ]
            refine wpAnyH_ready (rs := [5]) (by kernel_rfl) (by simp) ?_
            refine AllReadyH.cons rfl (fun K hK => ?_) AllReadyH.nil
            obtain ⟨p0, p1⟩ := (unhide HG).at hkP
            rw [unhide EP] at p0
            rw [unhide HPR, hPL] at p1
            go_simp
            clear p0 p1
            refine hK.out _ _ True.intro (fun hHeld => ?_)
            clear hK K
            try simp only [Act.put, List.setIfInBounds_toArray, List.set_cons_zero, List.set_cons_succ]
            refine wpAnyH_ready (rs := [9]) (by kernel_rfl) (by simp) ?_
            refine AllReadyH.cons rfl (fun K hK => ?_) AllReadyH.nil
            go_simp
            refine (withI_any p j y _ (by omega)).mono ?_
            rintro e w6 ⟨g5, rfl, ho5, hg5, hb⟩
            replace HG := hide ((unhide HG).below hb)
            replace HB := hide ((unhide HB).step hb)
            replace HA := hide ((unhide HA).step hb)
            replace HW := hide (Below.step (unhide HW) hb)
            clear hb
            have HL5 : Hid (Lnk w6 (y :: row) (some ⟨g5, 0, none⟩)) := ⟨g5, p, rfl, ho5, by have h1 := (unhide HG).lnk k hkP; rw [unhide HPR, unhide EP] at h1; exact h1⟩
            clear ho5
            refine hK.out _ _ True.intro (fun hHeld => ?_)
            clear hK K
            try simp only [Act.put, List.setIfInBounds_toArray, List.set_cons_zero, List.set_cons_succ]
            refine wpAnyH_take (i := 10) (v := ?_) rfl (by kernel_rfl) (by kernel_rfl) (by kernel_rfl) (fun _ _ _ h => h) (Or.inl ⟨by rfl, ?_⟩) (by assumption) ?_
            rotate_left
            · intro wy hSw
              have hS0 := hSw
              go_simp
              try with_reducible rfl
            try simp only [Act.put, List.getElem_toArray, List.getElem_cons_succ, List.getElem_cons_zero, List.setIfInBounds_toArray, List.set_cons_zero, List.set_cons_succ]
            refine wpAnyH_ready (rs := [11]) (by kernel_rfl) (by simp) ?_
            refine AllReadyH.cons rfl (fun K hK => ?_) AllReadyH.nil
            obtain ⟨p0, p1⟩ := (unhide HG).at hkP
            rw [unhide EP] at p0
            rw [unhide HPR, hPL] at p1
            have fr0 := (unhide HG).top.frozen (k * 2)
            have fr1 := (unhide HG).top.frozen (k * 2 + 1)
            have hgl := (unhide HG).top.lt
            have HN := hide ((unhide HG).put hkP (unhide HL5))
            have e5 : (y :: row).length = j + 1 := by rw [List.length_cons, hPL]
            rw [e5] at HN
            have HKS : Hid (Kept (fun b => b = gp) w6 ((w6.setCell ⟨gp, k * 2, none⟩ (.pointer (some ⟨g5, 0, none⟩))).setCell ⟨gp, k * 2 + 1, none⟩ (.int .i64 ((j + 1 : Nat) : Int)))) := ((Kept.refl (fun b => b = gp) _).setCell (p := ⟨gp, k * 2, none⟩) rfl _).setCell (p := ⟨gp, k * 2 + 1, none⟩) rfl _
            have hWB : Below w.heap.size w w6 := unhide HW
            go_simp
            clear p0 p1 fr0 fr1
            refine hK.out _ _ True.intro (fun hHeld => ?_)
            clear hK K
            try simp only [Act.put, List.setIfInBounds_toArray, List.set_cons_zero, List.set_cons_succ]
            refine wpAnyH_done (by kernel_rfl) ?_ _
            replace HW := hide (below_kept hWB (unhide HKS) hWB.size (fun b e => by omega))
            replace HB := hide ((unhide HB).kept (unhide HKS) (by omega))
            replace HA := hide ((unhide HA).kept (unhide HKS) (by omega))
            clear hWB HKS HG
            go_wp2
            go_roundg (m - (j + 1))
            case measure => omega
            case rel => exact ⟨j + 1, _, _, by omega, rfl, by go_num, HM2, HN, HW, HB, HA⟩
        · have hjj : j = m := by omega
          subst hjj
          have HM2 : Hid (MidP f R (k + 1) 0 P) := by have h1 := unhide HM; rw [← unhide EM] at h1; exact h1.next
          go_wp2
          go_roundg (R.length - (k + 1))
          case measure => omega
          case rel => exact ⟨k + 1, Z, P, by omega, rfl, by go_num, HM2, HG, HW, HB, HA⟩
    · have hkk : k = R.length := by omega
      subst hkk
      have HN : Hid (Gnd wr gp Z (pilF f R)) := by have h1 := unhide HG; rw [(unhide HM).all rfl] at h1; exact h1
      have b0 := (unhide HB).cell (i := 0) rfl
      have rf0 := (unhide HA).frozen 0
      have rf1 := (unhide HA).frozen 1
      have r0 := (unhide HA).cell (i := 0) rfl
      have r1 := (unhide HA).cell (i := 1) rfl
      have hne : ¬ g0 = g0 + 1 := by omega
      have HKS : Hid (Kept (fun b => b = g0 + 1) wr ((wr.setCell ⟨g0 + 1, 0, none⟩ (.int .i64 H)).setCell ⟨g0 + 1, 1, none⟩ (.slice (some ⟨gp, 0, none⟩) R.length R.length))) := ((Kept.refl (fun b => b = g0 + 1) _).setCell (p := ⟨g0 + 1, 0, none⟩) rfl _).setCell (p := ⟨g0 + 1, 1, none⟩) rfl _
      have f0 := (((unhide HA).set 0 (.int .i64 H) (by simp)).set 1 (.slice (some ⟨gp, 0, none⟩) R.length R.length) (by simp)).cell (i := 0) rfl
      have f1 := (((unhide HA).set 0 (.int .i64 H) (by simp)).set 1 (.slice (some ⟨gp, 0, none⟩) R.length R.length) (by simp)).cell (i := 1) rfl
      have hWB : Below w.heap.size w wr := unhide HW
      have HT : Hid (∀ k, k = g0 + 1 → NoLink wr k) := fun k e => e ▸ noLink_own (unhide HA) (fun q e => by cases e)
      go_wp2
      refine bodyPost_ret (v := .agg #[.int .i64 H, .slice (some ⟨gp, 0, none⟩) R.length R.length]) (by simp [results, Try.results85, go_sem, f0, f1]) rfl ?_
      exact ⟨gp, Z, rfl, by omega, (unhide HN).kept (unhide HKS) (by omega) (unhide HT), below_kept hWB (unhide HKS) hWB.size (fun b e => by omega)⟩

set_option maxRecDepth 10000 in
theorem Try.infoPileT : (Try.prog.info? 126).map (fun i => (i.zero, i.size, i.bytes)) = some (some (.agg #[.pointer none, .int .i64 0]), 2, 16) := by kernel_rfl

set_option maxRecDepth 10000 in
set_option maxHeartbeats 6400000 in
theorem groundOfT_any (H : Int) (v : Value) (R : List (List Int)) (gb : Nat) (ov : Value) (O : List Int) (w : World) (h : RowsIn w v R) (hy : YOk H R) (hb : w.cell? ⟨gb, 0, none⟩ = some ov) (hO : IntsIn w ov O) :
    Calls Try.prog 91 #[yardV H v, .func (.func 92) #[] #[.pointer (some ⟨gb, 0, none⟩)]] w fun e w' => ∃ g Z, e = .returned (gndV H g R.length R.length) ∧ w.heap.size ≤ g ∧ Gnd w' g Z (pilF (trn O) R) ∧ Below w.heap.size w w' := by
  have HV := hide h
  have HQ := hide fun (x : Int) W (hb' : Below w.heap.size w W) => turnOf_any x gb ov O W ((hb'.cell (lt_of_cell hb)).trans hb) (hO.below hb')
  clear hb hO
  obtain ⟨ao, cap, rfl, hc1, hc2⟩ := rows_cap h
  have hn1 := hy.n1
  have hn2 := hy.n2
  have HL6 : Hid (∀ s, s < R.length → (R.getD s []).length ≤ 6) := fun s hs => by have h1 := hy.low s hs; have h2 := hy.h2; omega
  generalize (trn O) = f at HQ ⊢
  clear h hy
  obtain ⟨bb, ob, eao, hcl⟩ := rows_at (unhide HV) (by omega)
  subst eao
  have HCL := hide hcl
  clear hcl
  unfold yardV gndV
  have hmk := run_make_recs (P := Try.prog) 88 126 _ 2 16 Try.underlying88 Try.infoPileT .i64 .i64 R.length (by omega) (by omega)
  rw [show (Value.agg #[.pointer none, .int .i64 0]).cells = #[.pointer none, .int .i64 0] from rfl] at hmk
  go_enter Try.func91, Try.ntmps91
  go_upto_region 1 with (fail)
  obtain ⟨g0, eg0⟩ : ∃ z, z = w.heap.size := ⟨_, rfl⟩
  obtain ⟨W, eW⟩ : ∃ z, z = (w.alloc (.cells #[.int .i64 H, .slice (some ⟨bb, ob, none⟩) R.length cap] 26)).alloc (.cells #[.int .i64 0, .slice none 0 0] 90) := ⟨_, rfl⟩
  have HW : Hid (Below w.heap.size w W) := by rw [eW]; exact Below.step (Below.alloc1 _ _) (Below.alloc1 _ _)
  have HB : Hid (OwnV W g0 [.int .i64 H, .slice (some ⟨bb, ob, none⟩) R.length cap]) := by rw [eW, eg0]; exact (ownV_alloc _ _ _).step (Below.alloc1 _ _)
  have HA : Hid (OwnV W (g0 + 1) [.int .i64 0, .slice none 0 0]) := by rw [eW, eg0]; exact own_new _ _ _ _ (by simp)
  rw [← eW, ← eg0]
  have hg0 : w.heap.size ≤ g0 := by omega
  clear eW eg0
  have b1 := (unhide HB).cell (i := 1) rfl
  go_upto_region 2 with (fail)
  obtain ⟨gp, egp⟩ : ∃ z, z = W.heap.size := ⟨_, rfl⟩
  have hgg : g0 + 1 < gp := by rw [egp]; exact (unhide HA).lt
  obtain ⟨W2, eW2⟩ : ∃ z, z = W.alloc (.cells (madeCells #[.pointer none, .int .i64 0] (R.length * 2)) 126) := ⟨_, rfl⟩
  have HG : Hid (Gnd W2 gp (List.replicate R.length (none, 0)) (List.replicate R.length [])) := by rw [eW2, egp]; exact gnd_made _ _ _
  have hb2 : Below W.heap.size W W2 := by rw [eW2]; exact Below.alloc1 _ _
  rw [← eW2, ← egp]
  replace HW := hide (Below.step (unhide HW) hb2)
  replace HB := hide ((unhide HB).step hb2)
  replace HA := hide ((unhide HA).step hb2)
  clear eW2 egp hb2 b1 hmk
  have HM := hide (midP_start f R)
  have b1 := (unhide HB).cell (i := 1) rfl
  go_wp2
  clear b1
  go_loopg [17] R.length (fun gh iv wr => ∃ (k : Nat) (Z : List (Option Addr × Nat)) (P : List (List Int)), k ≤ R.length ∧ gh = R.length - k ∧ iv = .int .i64 k ∧ Hid (MidP f R k 0 P) ∧ Hid (Gnd wr gp Z P) ∧ Hid (Below w.heap.size w wr) ∧ Hid (OwnV wr g0 [.int .i64 H, .slice (some ⟨bb, ob, none⟩) R.length cap]) ∧ Hid (OwnV wr (g0 + 1) [.int .i64 0, .slice none 0 0]))
  case atStart => exact ⟨0, _, _, Nat.zero_le _, rfl, rfl, HM, HG, HW, HB, HA⟩
  case round =>
    clear HM HG HW HB HA
    obtain ⟨k, Z, P, hk, rfl, rfl, HM, HG, HW, HB, HA⟩ := hrel
    by_cases hkn : k < R.length
    · have hki : (k : Int) < R.length := by omega
      have hm6 := unhide HL6 k hkn
      obtain ⟨ar, m, cr, hcell0, hrow0, EM, hm1, hm2⟩ := unhide HCL w (Below.refl _ _) k hkn
      unfold maxLen at hm2
      have em := unhide EM
      rw [em] at hm6
      have hcell := ((unhide HW).cell (lt_of_cell hcell0)).trans hcell0
      have HROW := hide hrow0
      clear em hrow0 hcell0
      go_wp2
      clear hcell
      go_loopg [24] m (fun gh iv wr => ∃ (j : Nat) (Z : List (Option Addr × Nat)) (P : List (List Int)), j ≤ m ∧ gh = m - j ∧ iv = .int .i64 j ∧ Hid (MidP f R k j P) ∧ Hid (Gnd wr gp Z P) ∧ Hid (Below w.heap.size w wr) ∧ Hid (OwnV wr g0 [.int .i64 H, .slice (some ⟨bb, ob, none⟩) R.length cap]) ∧ Hid (OwnV wr (g0 + 1) [.int .i64 0, .slice none 0 0]))
      case atStart => exact ⟨0, Z, P, Nat.zero_le _, rfl, rfl, HM, HG, HW, HB, HA⟩
      case round =>
        clear HM HG HW HB HA
        obtain ⟨j, Z, P, hj, rfl, rfl, HM, HG, HW, HB, HA⟩ := hrel
        by_cases hjm : j < m
        · have hji : (j : Int) < m := by omega
          have hrow := (unhide HROW).below (unhide HW)
          obtain ⟨rb, ro, er, hxj⟩ := intAt hrow hjm
          subst er
          have hMN := (unhide HM).now hkn
          have hkP : k < P.length := by rw [(unhide HM).len]; exact hkn
          have hPL : (P.getD k []).length = j := by rw [hMN, pil_len, List.length_take, unhide EM]; omega
          have HM2 := hide ((unhide HM).step hkn (show j < (R.getD k []).length by rw [unhide EM]; exact hjm))
          obtain ⟨x, ex⟩ : ∃ x, (R.getD k []).getD j 0 = x := ⟨_, rfl⟩
          rw [ex] at hxj HM2
          clear ex hrow hMN
          obtain ⟨row, erow⟩ : ∃ row, P.getD k [] = row := ⟨_, rfl⟩
          have HPR := hide erow
          rw [erow] at HM2 hPL
          obtain ⟨p, ep⟩ : ∃ p, (Z.getD k default).1 = p := ⟨_, rfl⟩
          have EP := hide ep
          clear ep erow
          obtain ⟨y, ey⟩ : ∃ y, f x = y := ⟨_, rfl⟩
          have Q := hide (unhide HQ x)
          rw [ey] at Q HM2
          clear ey
          go_upto_region 8 with (fail)
          obtain ⟨wd, ewd⟩ : ∃ z, z = wr.drew := ⟨_, rfl⟩
          have hb : Below wr.heap.size wr wd := by rw [ewd]; exact (Below.refl _ _).drew
          replace HG := hide ((unhide HG).below hb)
          replace HB := hide ((unhide HB).step hb)
          replace HA := hide ((unhide HA).step hb)
          replace HW := hide (Below.step (unhide HW) hb)
          clear hb hxj
          refine wp_region_held_drew (S := fun w' => True) (by kernel_rfl) True.intro (fun hHeld => ?_)
          rw [← ewd]
          clear ewd
          refine wpAnyH_take (i := 0) (v := ?_) rfl (by kernel_rfl) (by kernel_rfl) (by kernel_rfl) (fun _ _ _ h => h) (Or.inl ⟨by rfl, ?_⟩) (by assumption) ?_
          rotate_left
          · intro wy hSw
            have hS0 := hSw
            go_simp
            try with_reducible rfl
          try simp only [Act.put, List.getElem_toArray, List.getElem_cons_zero, List.setIfInBounds_toArray, List.set_cons_zero, List.set_cons_succ]
          refine wpAnyH_take (i := 1) (v := ?_) rfl (by kernel_rfl) (by kernel_rfl) (by kernel_rfl) (fun _ _ _ h => h) (Or.inl ⟨by rfl, ?_⟩) (by assumption) ?_
          rotate_left
          · intro wy hSw
            have hS0 := hSw
            go_simp
            try with_reducible rfl
          try simp only [Act.put, List.getElem_toArray, List.getElem_cons_succ, List.getElem_cons_zero, List.setIfInBounds_toArray, List.set_cons_zero, List.set_cons_succ]
          refine wpAnyH_take (i := 2) (v := ?_) rfl (by kernel_rfl) (by kernel_rfl) (by kernel_rfl) (fun _ _ _ h => h) (Or.inl ⟨by rfl, ?_⟩) (by assumption) ?_
          rotate_left
          · intro wy hSw
            have hS0 := hSw
            go_simp
            try with_reducible rfl
          try simp only [Act.put, List.getElem_toArray, List.getElem_cons_succ, List.getElem_cons_zero, List.setIfInBounds_toArray, List.set_cons_zero, List.set_cons_succ]
          refine wpAnyH_take (i := 3) (v := ?_) rfl (by kernel_rfl) (by kernel_rfl) (by kernel_rfl) (fun _ _ _ h => h) (Or.inl ⟨by rfl, ?_⟩) (by assumption) ?_
          rotate_left
          · intro wy hSw
            have hS0 := hSw
            go_simp
            try with_reducible rfl
          try simp only [Act.put, List.getElem_toArray, List.getElem_cons_succ, List.getElem_cons_zero, List.setIfInBounds_toArray, List.set_cons_zero, List.set_cons_succ]
          refine wpAnyH_take (i := 4) (v := ?_) rfl (by kernel_rfl) (by kernel_rfl) (by kernel_rfl) (fun _ _ _ h => h) (Or.inl ⟨by rfl, ?_⟩) (by assumption) ?_
          rotate_left
          · intro wy hSw
            have hS0 := hSw
            go_simp
            try with_reducible rfl
          try simp only [Act.put, List.getElem_toArray, List.getElem_cons_succ, List.getElem_cons_zero, List.setIfInBounds_toArray, List.set_cons_zero, List.set_cons_succ]
          refine wpAnyH_take (i := 6) (v := ?_) rfl (by kernel_rfl) (by kernel_rfl) (by kernel_rfl) (fun _ _ _ h => h) (Or.inl ⟨by rfl, ?_⟩) (by assumption) ?_
          rotate_left
          · intro wy hSw
            have hS0 := hSw
            go_simp
            try with_reducible rfl
          try simp only [Act.put, List.getElem_toArray, List.getElem_cons_succ, List.getElem_cons_zero, List.setIfInBounds_toArray, List.set_cons_zero, List.set_cons_succ]
          refine wpAnyH_take (i := 7) (v := ?_) rfl (by kernel_rfl) (by kernel_rfl) (by kernel_rfl) (fun _ _ _ h => h) (Or.inl ⟨by rfl, ?_⟩) (by assumption) ?_
          rotate_left
          · intro wy hSw
            have hS0 := hSw
            go_simp
            try with_reducible rfl
          try simp only [Act.put, List.getElem_toArray, List.getElem_cons_succ, List.getElem_cons_zero, List.setIfInBounds_toArray, List.set_cons_zero, List.set_cons_succ]
          refine wpAnyH_ready (rs := [5, 8]) (by kernel_rfl) (by simp) ?_
          refine AllReadyH.cons rfl (fun K hK => ?_) (AllReadyH.cons rfl (fun K hK => ?_) AllReadyH.nil)
          · obtain ⟨p0, p1⟩ := (unhide HG).at hkP
            rw [unhide EP] at p0
            rw [unhide HPR, hPL] at p1
            go_simp
            clear p0 p1
            refine hK.out _ _ True.intro (fun hHeld => ?_)
            clear hK K
            try simp only [Act.put, List.setIfInBounds_toArray, List.set_cons_zero, List.set_cons_succ]
            refine wpAnyH_ready (rs := [8]) (by kernel_rfl) (by simp) ?_
            refine AllReadyH.cons rfl (fun K hK => ?_) AllReadyH.nil
            go_simp
            refine (unhide Q _ (unhide HW)).mono ?_
            rintro e w7 ⟨rfl, hb⟩
            replace HG := hide ((unhide HG).below hb)
            replace HB := hide ((unhide HB).step hb)
            replace HA := hide ((unhide HA).step hb)
            replace HW := hide (Below.step (unhide HW) hb)
            clear hb
            refine hK.out _ _ True.intro (fun hHeld => ?_)
            clear hK K
            try simp only [Act.put, List.setIfInBounds_toArray, List.set_cons_zero, List.set_cons_succ]
            refine wpAnyH_ready (rs := [9]) (by kernel_rfl) (by simp) ?_
            refine AllReadyH.cons rfl (fun K hK => ?_) AllReadyH.nil
            go_simp
            refine (withT_any p j y _ (by omega)).mono ?_
            rintro e w6 ⟨g5, rfl, ho5, hg5, hb⟩
            replace HG := hide ((unhide HG).below hb)
            replace HB := hide ((unhide HB).step hb)
            replace HA := hide ((unhide HA).step hb)
            replace HW := hide (Below.step (unhide HW) hb)
            clear hb
            have HL5 : Hid (Lnk w6 (y :: row) (some ⟨g5, 0, none⟩)) := ⟨g5, p, rfl, ho5, by have h1 := (unhide HG).lnk k hkP; rw [unhide HPR, unhide EP] at h1; exact h1⟩
            clear ho5
            refine hK.out _ _ True.intro (fun hHeld => ?_)
            clear hK K
            try simp only [Act.put, List.setIfInBounds_toArray, List.set_cons_zero, List.set_cons_succ]
            refine wpAnyH_take (i := 10) (v := ?_) rfl (by kernel_rfl) (by kernel_rfl) (by kernel_rfl) (fun _ _ _ h => h) (Or.inl ⟨by rfl, ?_⟩) (by assumption) ?_
            rotate_left
            · intro wy hSw
              have hS0 := hSw
              go_simp
              try with_reducible rfl
            try simp only [Act.put, List.getElem_toArray, List.getElem_cons_succ, List.getElem_cons_zero, List.setIfInBounds_toArray, List.set_cons_zero, List.set_cons_succ]
            refine wpAnyH_ready (rs := [11]) (by kernel_rfl) (by simp) ?_
            refine AllReadyH.cons rfl (fun K hK => ?_) AllReadyH.nil
            obtain ⟨p0, p1⟩ := (unhide HG).at hkP
            rw [unhide EP] at p0
            rw [unhide HPR, hPL] at p1
            have fr0 := (unhide HG).top.frozen (k * 2)
            have fr1 := (unhide HG).top.frozen (k * 2 + 1)
            have hgl := (unhide HG).top.lt
            have HN := hide ((unhide HG).put hkP (unhide HL5))
            have e5 : (y :: row).length = j + 1 := by rw [List.length_cons, hPL]
            rw [e5] at HN
            have HKS : Hid (Kept (fun b => b = gp) w6 ((w6.setCell ⟨gp, k * 2, none⟩ (.pointer (some ⟨g5, 0, none⟩))).setCell ⟨gp, k * 2 + 1, none⟩ (.int .i64 ((j + 1 : Nat) : Int)))) := ((Kept.refl (fun b => b = gp) _).setCell (p := ⟨gp, k * 2, none⟩) rfl _).setCell (p := ⟨gp, k * 2 + 1, none⟩) rfl _
            have hWB : Below w.heap.size w w6 := unhide HW
            go_simp
            clear p0 p1 fr0 fr1
            refine hK.out _ _ True.intro (fun hHeld => ?_)
            clear hK K
            try simp only [Act.put, List.setIfInBounds_toArray, List.set_cons_zero, List.set_cons_succ]
            refine wpAnyH_done (by kernel_rfl) ?_ _
            replace HW := hide (below_kept hWB (unhide HKS) hWB.size (fun b e => by omega))
            replace HB := hide ((unhide HB).kept (unhide HKS) (by omega))
            replace HA := hide ((unhide HA).kept (unhide HKS) (by omega))
            clear hWB HKS HG
            go_wp2
            go_roundg (m - (j + 1))
            case measure => omega
            case rel => exact ⟨j + 1, _, _, by omega, rfl, by go_num, HM2, HN, HW, HB, HA⟩
          · go_simp
            refine (unhide Q _ (unhide HW)).mono ?_
            rintro e w7 ⟨rfl, hb⟩
            replace HG := hide ((unhide HG).below hb)
            replace HB := hide ((unhide HB).step hb)
            replace HA := hide ((unhide HA).step hb)
            replace HW := hide (Below.step (unhide HW) hb)
            clear hb
            refine hK.out _ _ True.intro (fun hHeld => ?_)
            clear hK K
            try simp only [Act.put, List.setIfInBounds_toArray, List.set_cons_zero, List.set_cons_succ]
            refine wpAnyH_ready (rs := [5]) (by kernel_rfl) (by simp) ?_
            refine AllReadyH.cons rfl (fun K hK => ?_) AllReadyH.nil
            obtain ⟨p0, p1⟩ := (unhide HG).at hkP
            rw [unhide EP] at p0
            rw [unhide HPR, hPL] at p1
            go_simp
            clear p0 p1
            refine hK.out _ _ True.intro (fun hHeld => ?_)
            clear hK K
            try simp only [Act.put, List.setIfInBounds_toArray, List.set_cons_zero, List.set_cons_succ]
            refine wpAnyH_ready (rs := [9]) (by kernel_rfl) (by simp) ?_
            refine AllReadyH.cons rfl (fun K hK => ?_) AllReadyH.nil
            go_simp
            refine (withT_any p j y _ (by omega)).mono ?_
            rintro e w6 ⟨g5, rfl, ho5, hg5, hb⟩
            replace HG := hide ((unhide HG).below hb)
            replace HB := hide ((unhide HB).step hb)
            replace HA := hide ((unhide HA).step hb)
            replace HW := hide (Below.step (unhide HW) hb)
            clear hb
            have HL5 : Hid (Lnk w6 (y :: row) (some ⟨g5, 0, none⟩)) := ⟨g5, p, rfl, ho5, by have h1 := (unhide HG).lnk k hkP; rw [unhide HPR, unhide EP] at h1; exact h1⟩
            clear ho5
            refine hK.out _ _ True.intro (fun hHeld => ?_)
            clear hK K
            try simp only [Act.put, List.setIfInBounds_toArray, List.set_cons_zero, List.set_cons_succ]
            refine wpAnyH_take (i := 10) (v := ?_) rfl (by kernel_rfl) (by kernel_rfl) (by kernel_rfl) (fun _ _ _ h => h) (Or.inl ⟨by rfl, ?_⟩) (by assumption) ?_
            rotate_left
            · intro wy hSw
              have hS0 := hSw
              go_simp
              try with_reducible rfl
            try simp only [Act.put, List.getElem_toArray, List.getElem_cons_succ, List.getElem_cons_zero, List.setIfInBounds_toArray, List.set_cons_zero, List.set_cons_succ]
            refine wpAnyH_ready (rs := [11]) (by kernel_rfl) (by simp) ?_
            refine AllReadyH.cons rfl (fun K hK => ?_) AllReadyH.nil
            obtain ⟨p0, p1⟩ := (unhide HG).at hkP
            rw [unhide EP] at p0
            rw [unhide HPR, hPL] at p1
            have fr0 := (unhide HG).top.frozen (k * 2)
            have fr1 := (unhide HG).top.frozen (k * 2 + 1)
            have hgl := (unhide HG).top.lt
            have HN := hide ((unhide HG).put hkP (unhide HL5))
            have e5 : (y :: row).length = j + 1 := by rw [List.length_cons, hPL]
            rw [e5] at HN
            have HKS : Hid (Kept (fun b => b = gp) w6 ((w6.setCell ⟨gp, k * 2, none⟩ (.pointer (some ⟨g5, 0, none⟩))).setCell ⟨gp, k * 2 + 1, none⟩ (.int .i64 ((j + 1 : Nat) : Int)))) := ((Kept.refl (fun b => b = gp) _).setCell (p := ⟨gp, k * 2, none⟩) rfl _).setCell (p := ⟨gp, k * 2 + 1, none⟩) rfl _
            have hWB : Below w.heap.size w w6 := unhide HW
            go_simp
            clear p0 p1 fr0 fr1
            refine hK.out _ _ True.intro (fun hHeld => ?_)
            clear hK K
            try simp only [Act.put, List.setIfInBounds_toArray, List.set_cons_zero, List.set_cons_succ]
            refine wpAnyH_done (by kernel_rfl) ?_ _
            replace HW := hide (below_kept hWB (unhide HKS) hWB.size (fun b e => by omega))
            replace HB := hide ((unhide HB).kept (unhide HKS) (by omega))
            replace HA := hide ((unhide HA).kept (unhide HKS) (by omega))
            clear hWB HKS HG
            go_wp2
            go_roundg (m - (j + 1))
            case measure => omega
            case rel => exact ⟨j + 1, _, _, by omega, rfl, by go_num, HM2, HN, HW, HB, HA⟩
        · have hjj : j = m := by omega
          subst hjj
          have HM2 : Hid (MidP f R (k + 1) 0 P) := by have h1 := unhide HM; rw [← unhide EM] at h1; exact h1.next
          go_wp2
          go_roundg (R.length - (k + 1))
          case measure => omega
          case rel => exact ⟨k + 1, Z, P, by omega, rfl, by go_num, HM2, HG, HW, HB, HA⟩
    · have hkk : k = R.length := by omega
      subst hkk
      have HN : Hid (Gnd wr gp Z (pilF f R)) := by have h1 := unhide HG; rw [(unhide HM).all rfl] at h1; exact h1
      have b0 := (unhide HB).cell (i := 0) rfl
      have rf0 := (unhide HA).frozen 0
      have rf1 := (unhide HA).frozen 1
      have r0 := (unhide HA).cell (i := 0) rfl
      have r1 := (unhide HA).cell (i := 1) rfl
      have hne : ¬ g0 = g0 + 1 := by omega
      have HKS : Hid (Kept (fun b => b = g0 + 1) wr ((wr.setCell ⟨g0 + 1, 0, none⟩ (.int .i64 H)).setCell ⟨g0 + 1, 1, none⟩ (.slice (some ⟨gp, 0, none⟩) R.length R.length))) := ((Kept.refl (fun b => b = g0 + 1) _).setCell (p := ⟨g0 + 1, 0, none⟩) rfl _).setCell (p := ⟨g0 + 1, 1, none⟩) rfl _
      have f0 := (((unhide HA).set 0 (.int .i64 H) (by simp)).set 1 (.slice (some ⟨gp, 0, none⟩) R.length R.length) (by simp)).cell (i := 0) rfl
      have f1 := (((unhide HA).set 0 (.int .i64 H) (by simp)).set 1 (.slice (some ⟨gp, 0, none⟩) R.length R.length) (by simp)).cell (i := 1) rfl
      have hWB : Below w.heap.size w wr := unhide HW
      have HT : Hid (∀ k, k = g0 + 1 → NoLink wr k) := fun k e => e ▸ noLink_own (unhide HA) (fun q e => by cases e)
      go_wp2
      refine bodyPost_ret (v := .agg #[.int .i64 H, .slice (some ⟨gp, 0, none⟩) R.length R.length]) (by simp [results, Try.results91, go_sem, f0, f1]) rfl ?_
      exact ⟨gp, Z, rfl, by omega, (unhide HN).kept (unhide HKS) (by omega) (unhide HT), below_kept hWB (unhide HKS) hWB.size (fun b e => by omega)⟩

end Go.Proofs.Ytjllilmiloippaa
