/- Customs: the contract of the program's split. Written by wip/mkcsp.py. -/
import Derived.Test.YtojlkdmlelgcbaaCsP
import Derived.BigRegion
namespace Go.Proofs.Ytojlkdmlelgcbaa
open Go.RowKit

set_option maxRecDepth 100000 in
set_option maxHeartbeats 6400000 in
theorem split_any (go gl cap gp : Nat) (ok : Bool) (L : List LotT) (P : List TraderT) (tk : Int) (k : Nat) (id ow mx va ra kd di dow ma dva dra nw : Int) (w : World) (h : Of w go gl cap gp ok L P tk) (ha : AscL L) (hs : L.length ≤ 1048576) (hk : k < L.length) (hx : L.getD k default = (id, ow, mx, va, ra, 1, 0)) (hm0 : 1 ≤ ma) (hm1 : mx ≤ 1000000) :
    Calls Try.prog 77 #[.pointer (some ⟨go, 0, none⟩), .int .i64 (k : Int), vDeed kd di dow ma dva dra nw] w fun e w' => OfA w go gl gp ok (splH (L, P, tk) k (id, ow, mx, va, ra, 1, 0) (kd, di, dow, ma, dva, dra, nw)) e w' := by
  have A := Below.alloc1 w (.cells #[.int .i64 kd, .int .i64 di, .int .i64 dow, .int .i64 ma, .int .i64 dva, .int .i64 dra, .int .i64 nw] 34)
  have HD := hide (ownV_alloc w #[.int .i64 kd, .int .i64 di, .int .i64 dow, .int .i64 ma, .int .i64 dva, .int .i64 dra, .int .i64 nw] 34)
  have HO := hide (h.step A)
  have HW := hide A
  have hlt0 := h.lt
  have ER : Hid (splH (L, P, tk) k (id, ow, mx, va, ra, 1, 0) (kd, di, dow, ma, dva, dra, nw) = if mx ≤ ma then ((L, P, tk), 4) else if roomL L nw = false then ((L, P, tk), 2) else ((insL (L.set k (id, ow, mx - ma, va, ra, 1, 0)) (lplc L nw) (nw, ow, ma, va, ra, 1, 0), P, tk), 0)) := rfl
  have Q1 := hide fun V (hV : Of V go gl cap gp ok L P tk) => room_any go gl cap gp ok L P tk nw V hV ha hs
  have hpl := lplc_le L nw
  have HX := hide hx
  have hki : (k : Int) < L.length := by omega
  generalize lplc L nw = k2 at *
  generalize splH (L, P, tk) k (id, ow, mx, va, ra, 1, 0) (kd, di, dow, ma, dva, dra, nw) = R at *
  clear h A ha hx
  unfold vDeed
  go_enter Try.func77, Try.ntmps77
  go_upto_region 1 with (fail)
  obtain ⟨V0, eV⟩ : ∃ V, V = w.alloc (.cells #[.int .i64 kd, .int .i64 di, .int .i64 dow, .int .i64 ma, .int .i64 dva, .int .i64 dra, .int .i64 nw] 34) := ⟨_, rfl⟩
  rw [← eV] at HD HO HW ⊢
  clear eV
  have q3 := (unhide HD).cell (i := 3) rfl
  have o1 := (unhide HO).box.cell (i := 1) rfl
  obtain ⟨c0, c1, c2, c3, c4, c5, c6⟩ := (unhide HO).lot hk (unhide HX)
  by_cases hm : mx ≤ ma
  · have EF : Hid (R = ((L, P, tk), 4)) := by show _ = _; rw [unhide ER, if_pos hm]
    have dm : decide (mx ≤ ma) = true := by simpa using hm
    clear ER hm
    go_quiet (fail)
    go_wp2
    go_ret
    exact ofA_mk (unhide EF) ((unhide HO).step (below_drewN (Below.refl _ _) _)) (keptB (below_drewN (unhide HW) _)) (Or.inl rfl)
  have dm : decide (mx ≤ ma) = false := by simpa using hm
  rw [if_neg hm] at ER
  go_cut [20] (fun s wx => s = .bool false ∧ ∃ n, wx = V0.drewN n)
  case first =>
    go_quiet (fail)
    go_wp2_with fail
    go_meet
    exact ⟨rfl, _, rfl⟩
  case rest =>
  obtain ⟨rfl, nq, rfl⟩ := hcut
  replace HO := hide ((unhide HO).step (below_drewN (Below.refl _ _) nq))
  replace HD := hide ((unhide HD).step (below_drewN (Below.refl _ _) nq))
  replace HW := hide (below_drewN (unhide HW) nq)
  clear q3 o1 c0 c1 c2 c3 c4 c5 c6 dm
  generalize V0.drewN nq = V at *
  have q6 := (unhide HD).cell (i := 6) rfl
  go_wp2_with fail
  refine (unhide Q1 _ (unhide HO)).mono ?_
  rintro e V1 ⟨rfl, hb⟩
  replace HW := hide (Below.step (unhide HW) hb)
  replace HO := hide ((unhide HO).step hb)
  replace HD := hide ((unhide HD).step hb)
  clear hb Q1 q6
  cases hr : roomL L nw with
  | false =>
    have EF : Hid (R = ((L, P, tk), 2)) := by show _ = _; rw [unhide ER, if_pos hr]
    go_wp2
    go_ret
    exact ofA_mk (unhide EF) (unhide HO) (keptB (unhide HW)) (Or.inl rfl)
  | true =>
    have EF0 : Hid (R = ((insL (L.set k (id, ow, mx - ma, va, ra, 1, 0)) k2 (nw, ow, ma, va, ra, 1, 0), P, tk), 0)) := by show _ = _; rw [unhide ER, if_neg (by rw [hr]; simp)]
    clear ER hr
    have A2 := Below.alloc1 V1 (.cells #[.int .i64 id, .int .i64 ow, .int .i64 mx, .int .i64 va, .int .i64 ra, .int .i64 1, .int .i64 0] 39)
    have HB0 := hide (ownV_alloc V1 #[.int .i64 id, .int .i64 ow, .int .i64 mx, .int .i64 va, .int .i64 ra, .int .i64 1, .int .i64 0] 39)
    have hlt1 := (unhide HO).lt
    have hdl := (unhide HD).lt
    have o1 := (unhide HO).box.cell (i := 1) rfl
    obtain ⟨c0, c1, c2, c3, c4, c5, c6⟩ := (unhide HO).lot hk (unhide HX)
    replace HW := hide (Below.step (unhide HW) A2)
    replace HO := hide ((unhide HO).step A2)
    replace HD := hide ((unhide HD).step A2)
    go_upto_region 7 with (fail)
    obtain ⟨V2, eV⟩ : ∃ V, V = V1.alloc (.cells #[.int .i64 id, .int .i64 ow, .int .i64 mx, .int .i64 va, .int .i64 ra, .int .i64 1, .int .i64 0] 39) := ⟨_, rfl⟩
    rw [← eV] at HB0 HO HW HD ⊢
    obtain ⟨gx, egx⟩ : ∃ g, g = V1.heap.size := ⟨_, rfl⟩
    rw [← egx] at HB0 ⊢
    have hgxl : ¬ gx = gl := by omega
    have hglx : ¬ gl = gx := by omega
    have hgxo : gx ≠ go := by omega
    have hgox : ¬ go = gx := by omega
    have hgpx : ¬ gp = gx := by omega
    have hgxw : w.heap.size ≤ gx := by omega
    have hgd : ¬ w.heap.size = gx := by omega
    have hgd2 : ¬ gx = w.heap.size := by omega
    clear eV egx A2 o1 c0 c1 c2 c3 c4 c5 c6
    have q3 := (unhide HD).cell (i := 3) rfl
    have q6 := (unhide HD).cell (i := 6) rfl
    have b0 := (unhide HB0).cell (i := 0) rfl
    have b2 := (unhide HB0).cell (i := 2) rfl
    have bf := (unhide HB0).frozen
    have HBX := hide (((unhide HB0).set 0 (.int .i64 nw) (by simp)).set 2 (.int .i64 ma) (by simp))
    have HWB : Hid (Below w.heap.size w ((V2.setCell ⟨gx, 0, none⟩ (.int .i64 nw)).setCell ⟨gx, 2, none⟩ (.int .i64 ma))) := ((unhide HW).setCell (p := ⟨gx, 0, none⟩) hgxw _).setCell (p := ⟨gx, 2, none⟩) hgxw _
    have HOB : Hid (Of ((V2.setCell ⟨gx, 0, none⟩ (.int .i64 nw)).setCell ⟨gx, 2, none⟩ (.int .i64 ma)) go gl cap gp ok L P tk) := (unhide HO).kept (T := fun b => b = gx) (kept2 V2 gx 0 2 _ _) hgox hglx hgpx
    have HDB := hide (((unhide HD).other (a := ⟨gx, 0, none⟩) hgd (.int .i64 nw)).other (a := ⟨gx, 2, none⟩) hgd (.int .i64 ma))
    go_upto_region 9 with (fail)
    obtain ⟨V3, eV⟩ : ∃ V, V = (V2.setCell ⟨gx, 0, none⟩ (.int .i64 nw)).setCell ⟨gx, 2, none⟩ (.int .i64 ma) := ⟨_, rfl⟩
    rw [← eV] at HBX HWB HOB HDB ⊢
    clear eV q3 q6 b0 b2 bf HB0 HO HD HW
    dsimp only [List.set] at HBX
    have q3 := (unhide HDB).cell (i := 3) rfl
    have o1 := (unhide HOB).box.cell (i := 1) rfl
    obtain ⟨c0, c1, c2, c3, c4, c5, c6⟩ := (unhide HOB).lot hk (unhide HX)
    have cf := (unhide HOB).own.frozen
    have e9 : IntKind.i64.wrap (mx - ma) = mx - ma := by rw [IntKind.wrap_i64]; omega
    have HO2 := hide fun n => ((unhide HOB).step (below_drewN (Below.refl _ _) n)).putL hk (j := 2) (by omega) (id, ow, mx - ma, va, ra, 1, 0) (fun j' h1 h2 => by rw [unhide HX]; have h3 : j' = 0 ∨ j' = 1 ∨ j' = 2 ∨ j' = 3 ∨ j' = 4 ∨ j' = 5 ∨ j' = 6 := (by omega); rcases h3 with rfl | rfl | rfl | rfl | rfl | rfl | rfl <;> first | rfl | exact absurd rfl h2) (u := .int .i64 (mx - ma)) rfl
    have HKW0 := hide fun n => keptL (go := go) (gl := gl) (gp := gp) (keptDN (keptB (unhide HWB)) n) (k * 7 + 2) (.int .i64 (mx - ma))
    have HBX0 := hide fun n => ((unhide HBX).step (below_drewN (Below.refl _ _) n)).other (a := ⟨gl, k * 7 + 2, none⟩) hgxl (.int .i64 (mx - ma))
    go_cut [] (fun wx => ∃ n, wx = (V3.drewN n).setCell ⟨gl, k * 7 + 2, none⟩ (.int .i64 (mx - ma)))
    case first =>
      go_region
      all_goals
        go_wp2_with fail
        go_meet
        first | exact ⟨_, rfl⟩ | exact ⟨0, rfl⟩ | exact ⟨1, rfl⟩
    case rest =>
    obtain ⟨n9, rfl⟩ := hcut
    have HO := hide (unhide HO2 n9)
    have HKW := hide (unhide HKW0 n9)
    replace HBX := hide (unhide HBX0 n9)
    have hV2 := (unhide HKW).size
    clear HO2 HKW0 HBX0 q3 o1 c0 c1 c2 c3 c4 c5 c6 cf HOB HDB HWB
    generalize (V3.drewN n9).setCell ⟨gl, k * 7 + 2, none⟩ (.int .i64 (mx - ma)) = V4 at *
    obtain ⟨L2, eL2⟩ : ∃ M, M = L.set k (id, ow, mx - ma, va, ra, 1, 0) := ⟨_, rfl⟩
    have hL2 : L2.length = L.length := by rw [eL2, List.length_set]
    rw [← eL2] at HO EF0
    have EF := EF0
    replace hs : L2.length ≤ 1048576 := by omega
    replace hpl : k2 ≤ L2.length := by omega
    clear eL2 EF0 hL2 hki hk HX
    go_upto_region 10 with (fail)
    replace HO := hide ((unhide HO).step (Below.refl _ _).drew)
    replace HBX := hide ((unhide HBX).step (Below.refl _ _).drew)
    refine wp_region_held_drew (S := fun w' => w'.cell? ⟨gx, 0, none⟩ = some (.int .i64 nw) ∧ w'.cell? ⟨gx, 1, none⟩ = some (.int .i64 ow) ∧ w'.cell? ⟨gx, 2, none⟩ = some (.int .i64 ma) ∧ w'.cell? ⟨gx, 3, none⟩ = some (.int .i64 va) ∧ w'.cell? ⟨gx, 4, none⟩ = some (.int .i64 ra) ∧ w'.cell? ⟨gx, 5, none⟩ = some (.int .i64 1) ∧ w'.cell? ⟨gx, 6, none⟩ = some (.int .i64 0)) (by kernel_rfl) ⟨(unhide HBX).cell (i := 0) rfl, (unhide HBX).cell (i := 1) rfl, (unhide HBX).cell (i := 2) rfl, (unhide HBX).cell (i := 3) rfl, (unhide HBX).cell (i := 4) rfl, (unhide HBX).cell (i := 5) rfl, (unhide HBX).cell (i := 6) rfl⟩ (fun hHeld => ?_)
    refine wpAnyH_take (i := 0) (v := ?_) rfl (by kernel_rfl) (by kernel_rfl) (by kernel_rfl) (fun _ _ _ h => h) (Or.inl ⟨by rfl, ?_⟩) (by assumption) ?_
    rotate_left
    · intro wy hSw
      obtain ⟨hS0, hS1, hS2, hS3, hS4, hS5, hS6⟩ := hSw
      go_simp
      try with_reducible rfl
    try simp only [Act.put, List.getElem_toArray, List.getElem_cons_zero, List.setIfInBounds_toArray, List.set_cons_zero, List.set_cons_succ]
    refine wpAnyH_take (i := 1) (v := ?_) rfl (by kernel_rfl) (by kernel_rfl) (by kernel_rfl) (fun _ _ _ h => h) (Or.inl ⟨by rfl, ?_⟩) (by assumption) ?_
    rotate_left
    · intro wy hSw
      obtain ⟨hS0, hS1, hS2, hS3, hS4, hS5, hS6⟩ := hSw
      go_simp
      try with_reducible rfl
    try simp only [Act.put, List.getElem_toArray, List.getElem_cons_succ, List.getElem_cons_zero, List.setIfInBounds_toArray, List.set_cons_zero, List.set_cons_succ]
    refine wpAnyH_take (i := 2) (v := ?_) rfl (by kernel_rfl) (by kernel_rfl) (by kernel_rfl) (fun _ _ _ h => h) (Or.inl ⟨by rfl, ?_⟩) (by assumption) ?_
    rotate_left
    · intro wy hSw
      obtain ⟨hS0, hS1, hS2, hS3, hS4, hS5, hS6⟩ := hSw
      go_simp
      try with_reducible rfl
    try simp only [Act.put, List.getElem_toArray, List.getElem_cons_succ, List.getElem_cons_zero, List.setIfInBounds_toArray, List.set_cons_zero, List.set_cons_succ]
    refine wpAnyH_take (i := 3) (v := ?_) rfl (by kernel_rfl) (by kernel_rfl) (by kernel_rfl) (fun _ _ _ h => h) (Or.inl ⟨by rfl, ?_⟩) (by assumption) ?_
    rotate_left
    · intro wy hSw
      obtain ⟨hS0, hS1, hS2, hS3, hS4, hS5, hS6⟩ := hSw
      go_simp
      try with_reducible rfl
    try simp only [Act.put, List.getElem_toArray, List.getElem_cons_succ, List.getElem_cons_zero, List.setIfInBounds_toArray, List.set_cons_zero, List.set_cons_succ]
    refine wpAnyH_take (i := 5) (v := ?_) rfl (by kernel_rfl) (by kernel_rfl) (by kernel_rfl) (fun _ _ _ h => h) (Or.inl ⟨by rfl, ?_⟩) (by assumption) ?_
    rotate_left
    · intro wy hSw
      obtain ⟨hS0, hS1, hS2, hS3, hS4, hS5, hS6⟩ := hSw
      go_simp
      try with_reducible rfl
    try simp only [Act.put, List.getElem_toArray, List.getElem_cons_succ, List.getElem_cons_zero, List.setIfInBounds_toArray, List.set_cons_zero, List.set_cons_succ]
    refine wpAnyH_take (i := 6) (v := ?_) rfl (by kernel_rfl) (by kernel_rfl) (by kernel_rfl) (fun _ _ _ h => h) (Or.inl ⟨by rfl, ?_⟩) (by assumption) ?_
    rotate_left
    · intro wy hSw
      obtain ⟨hS0, hS1, hS2, hS3, hS4, hS5, hS6⟩ := hSw
      go_simp
      try with_reducible rfl
    try simp only [Act.put, List.getElem_toArray, List.getElem_cons_succ, List.getElem_cons_zero, List.setIfInBounds_toArray, List.set_cons_zero, List.set_cons_succ]
    refine wpAnyH_ready (rs := [4, 7]) (by kernel_rfl) (by simp) ?_
    refine AllReadyH.cons rfl (fun K hK => ?_) ?_
    · have c1 := (unhide HO).box.cell (i := 1) rfl
      go_simp
      refine hK.out _ _ ⟨(unhide HBX).cell (i := 0) rfl, (unhide HBX).cell (i := 1) rfl, (unhide HBX).cell (i := 2) rfl, (unhide HBX).cell (i := 3) rfl, (unhide HBX).cell (i := 4) rfl, (unhide HBX).cell (i := 5) rfl, (unhide HBX).cell (i := 6) rfl⟩ (fun hHeld => ?_)
      clear hK K c1
      try simp only [Act.put, List.getElem_toArray, List.getElem_cons_succ, List.getElem_cons_zero, List.setIfInBounds_toArray, List.set_cons_zero, List.set_cons_succ]
      refine wpAnyH_ready (rs := [7]) (by kernel_rfl) (by simp) ?_
      refine AllReadyH.cons rfl (fun K hK => ?_) AllReadyH.nil
      have A9 : Below (World.drew V4).heap.size (World.drew V4) (World.drew (V4.alloc (.cells #[.int .i64 nw, .int .i64 ow, .int .i64 ma, .int .i64 va, .int .i64 ra, .int .i64 1, .int .i64 0] 39))) := Below.alloc1 (World.drew V4) (.cells #[.int .i64 nw, .int .i64 ow, .int .i64 ma, .int .i64 va, .int .i64 ra, .int .i64 1, .int .i64 0] 39)
      have HBv : Hid (Blk (World.drew (V4.alloc (.cells #[.int .i64 nw, .int .i64 ow, .int .i64 ma, .int .i64 va, .int .i64 ra, .int .i64 1, .int .i64 0] 39))) V4.heap.size 39 ((List.range 7).map (eLot (nw, ow, ma, va, ra, 1, 0)))) := by
        show Blk _ _ _ _
        rw [show (List.range 7).map (eLot (nw, ow, ma, va, ra, 1, 0)) = [.int .i64 nw, .int .i64 ow, .int .i64 ma, .int .i64 va, .int .i64 ra, .int .i64 1, .int .i64 0] by simp [List.range, List.range.loop, eLot]]
        exact Go.Deep.blk_alloc_new (World.drew V4) _
      have hltV := (unhide HO).lt
      replace HO := hide ((unhide HO).step A9)
      replace HBX := hide ((unhide HBX).step A9)
      have HB3 := hide A9
      clear A9
      go_simp
      refine hK.out _ _ ⟨(unhide HBX).cell (i := 0) rfl, (unhide HBX).cell (i := 1) rfl, (unhide HBX).cell (i := 2) rfl, (unhide HBX).cell (i := 3) rfl, (unhide HBX).cell (i := 4) rfl, (unhide HBX).cell (i := 5) rfl, (unhide HBX).cell (i := 6) rfl⟩ (fun hHeld => ?_)
      clear hK K
      try simp only [Act.put, List.getElem_toArray, List.getElem_cons_succ, List.getElem_cons_zero, List.setIfInBounds_toArray, List.set_cons_zero, List.set_cons_succ]
      generalize World.drew (V4.alloc (.cells #[.int .i64 nw, .int .i64 ow, .int .i64 ma, .int .i64 va, .int .i64 ra, .int .i64 1, .int .i64 0] 39)) = V3 at *
      refine wpAnyH_ready (rs := [8]) (by kernel_rfl) (by simp) ?_
      refine AllReadyH.cons rfl (fun K hK => ?_) AllReadyH.nil
      have QI := hide (insLot_any gl L2.length cap k2 V4.heap.size L2 (nw, ow, ma, va, ra, 1, 0) _ (unhide HO).row (unhide HBv) (by have := hltV.2.1; show V4.heap.size ≠ gl; have e9 : (World.drew V4).heap.size = V4.heap.size := rfl; omega) hpl hs (eLot_one L2) (eLot_one1 _))
      go_simp
      refine (unhide QI).mono ?_
      rintro e w3 ⟨g', c', rfl, hr, hkk, hor⟩
      have HK3 := hide hkk
      have HO9 := hide ((unhide HO).putRow hkk hr (by rw [insL_len]) hor)
      have HOB := hide ((unhide HO).box.kept hkk (unhide HO).ap.1)
      have HOR := hide hor
      replace HBX := hide ((unhide HBX).kept hkk hgxl)
      clear HO QI HBv hr hkk hor
      refine hK.out _ _ ⟨(unhide HBX).cell (i := 0) rfl, (unhide HBX).cell (i := 1) rfl, (unhide HBX).cell (i := 2) rfl, (unhide HBX).cell (i := 3) rfl, (unhide HBX).cell (i := 4) rfl, (unhide HBX).cell (i := 5) rfl, (unhide HBX).cell (i := 6) rfl⟩ (fun hHeld => ?_)
      clear hK K
      try simp only [Act.put, List.getElem_toArray, List.getElem_cons_succ, List.getElem_cons_zero, List.setIfInBounds_toArray, List.set_cons_zero, List.set_cons_succ]
      refine wpAnyH_take (i := 9) (v := ?_) rfl (by kernel_rfl) (by kernel_rfl) (by kernel_rfl) (fun _ _ _ h => h) (Or.inl ⟨by rfl, ?_⟩) (by assumption) ?_
      rotate_left
      · intro wy hSw
        obtain ⟨hS0, hS1, hS2, hS3, hS4, hS5, hS6⟩ := hSw
        go_simp
        try with_reducible rfl
      try simp only [Act.put, List.getElem_toArray, List.getElem_cons_succ, List.getElem_cons_zero, List.setIfInBounds_toArray, List.set_cons_zero, List.set_cons_succ]
      refine wpAnyH_take (i := 10) (v := ?_) rfl (by kernel_rfl) (by kernel_rfl) (by kernel_rfl) (fun _ _ _ h => h) (Or.inl ⟨by rfl, ?_⟩) (by assumption) ?_
      rotate_left
      · intro wy hSw
        obtain ⟨hS0, hS1, hS2, hS3, hS4, hS5, hS6⟩ := hSw
        go_simp
        try with_reducible rfl
      try simp only [Act.put, List.getElem_toArray, List.getElem_cons_succ, List.getElem_cons_zero, List.setIfInBounds_toArray, List.set_cons_zero, List.set_cons_succ]
      refine wpAnyH_ready (rs := [11]) (by kernel_rfl) (by simp) ?_
      refine AllReadyH.cons rfl (fun K hK => ?_) AllReadyH.nil
      have k1 := (unhide HOB).cell (i := 1) rfl
      have kf := (unhide HOB).frozen
      replace HBX := hide ((unhide HBX).other (a := ⟨go, 1, none⟩) hgxo (.slice (some ⟨g', 0, none⟩) (L2.length + 1) c'))
      go_simp
      refine hK.out _ _ ⟨(unhide HBX).cell (i := 0) rfl, (unhide HBX).cell (i := 1) rfl, (unhide HBX).cell (i := 2) rfl, (unhide HBX).cell (i := 3) rfl, (unhide HBX).cell (i := 4) rfl, (unhide HBX).cell (i := 5) rfl, (unhide HBX).cell (i := 6) rfl⟩ (fun hHeld => ?_)
      clear hK K k1 kf
      try simp only [Act.put, List.getElem_toArray, List.getElem_cons_succ, List.getElem_cons_zero, List.setIfInBounds_toArray, List.set_cons_zero, List.set_cons_succ]
      refine wpAnyH_done (by kernel_rfl) ?_ _
      go_wp2
      go_ret
      exact ofA_mk (unhide EF) (unhide HO9) (keptG ((unhide HKW).trans (keptR ((keptD (Kept.refl _ _)).trans ((kept_of_below (unhide HB3)).trans (unhide HK3))))) 1 _) (glp (unhide HOR) (Nat.le_trans hV2 (unhide HB3).size))
    refine AllReadyH.cons rfl (fun K hK => ?_) AllReadyH.nil
    have A9 : Below (World.drew V4).heap.size (World.drew V4) (World.drew (V4.alloc (.cells #[.int .i64 nw, .int .i64 ow, .int .i64 ma, .int .i64 va, .int .i64 ra, .int .i64 1, .int .i64 0] 39))) := Below.alloc1 (World.drew V4) (.cells #[.int .i64 nw, .int .i64 ow, .int .i64 ma, .int .i64 va, .int .i64 ra, .int .i64 1, .int .i64 0] 39)
    have HBv : Hid (Blk (World.drew (V4.alloc (.cells #[.int .i64 nw, .int .i64 ow, .int .i64 ma, .int .i64 va, .int .i64 ra, .int .i64 1, .int .i64 0] 39))) V4.heap.size 39 ((List.range 7).map (eLot (nw, ow, ma, va, ra, 1, 0)))) := by
      show Blk _ _ _ _
      rw [show (List.range 7).map (eLot (nw, ow, ma, va, ra, 1, 0)) = [.int .i64 nw, .int .i64 ow, .int .i64 ma, .int .i64 va, .int .i64 ra, .int .i64 1, .int .i64 0] by simp [List.range, List.range.loop, eLot]]
      exact Go.Deep.blk_alloc_new (World.drew V4) _
    have hltV := (unhide HO).lt
    replace HO := hide ((unhide HO).step A9)
    replace HBX := hide ((unhide HBX).step A9)
    have HB3 := hide A9
    clear A9
    go_simp
    refine hK.out _ _ ⟨(unhide HBX).cell (i := 0) rfl, (unhide HBX).cell (i := 1) rfl, (unhide HBX).cell (i := 2) rfl, (unhide HBX).cell (i := 3) rfl, (unhide HBX).cell (i := 4) rfl, (unhide HBX).cell (i := 5) rfl, (unhide HBX).cell (i := 6) rfl⟩ (fun hHeld => ?_)
    clear hK K
    try simp only [Act.put, List.getElem_toArray, List.getElem_cons_succ, List.getElem_cons_zero, List.setIfInBounds_toArray, List.set_cons_zero, List.set_cons_succ]
    generalize World.drew (V4.alloc (.cells #[.int .i64 nw, .int .i64 ow, .int .i64 ma, .int .i64 va, .int .i64 ra, .int .i64 1, .int .i64 0] 39)) = V3 at *
    refine wpAnyH_ready (rs := [4]) (by kernel_rfl) (by simp) ?_
    refine AllReadyH.cons rfl (fun K hK => ?_) AllReadyH.nil
    have c1 := (unhide HO).box.cell (i := 1) rfl
    go_simp
    refine hK.out _ _ ⟨(unhide HBX).cell (i := 0) rfl, (unhide HBX).cell (i := 1) rfl, (unhide HBX).cell (i := 2) rfl, (unhide HBX).cell (i := 3) rfl, (unhide HBX).cell (i := 4) rfl, (unhide HBX).cell (i := 5) rfl, (unhide HBX).cell (i := 6) rfl⟩ (fun hHeld => ?_)
    clear hK K c1
    try simp only [Act.put, List.getElem_toArray, List.getElem_cons_succ, List.getElem_cons_zero, List.setIfInBounds_toArray, List.set_cons_zero, List.set_cons_succ]
    refine wpAnyH_ready (rs := [8]) (by kernel_rfl) (by simp) ?_
    refine AllReadyH.cons rfl (fun K hK => ?_) AllReadyH.nil
    have QI := hide (insLot_any gl L2.length cap k2 V4.heap.size L2 (nw, ow, ma, va, ra, 1, 0) _ (unhide HO).row (unhide HBv) (by have := hltV.2.1; show V4.heap.size ≠ gl; have e9 : (World.drew V4).heap.size = V4.heap.size := rfl; omega) hpl hs (eLot_one L2) (eLot_one1 _))
    go_simp
    refine (unhide QI).mono ?_
    rintro e w3 ⟨g', c', rfl, hr, hkk, hor⟩
    have HK3 := hide hkk
    have HO9 := hide ((unhide HO).putRow hkk hr (by rw [insL_len]) hor)
    have HOB := hide ((unhide HO).box.kept hkk (unhide HO).ap.1)
    have HOR := hide hor
    replace HBX := hide ((unhide HBX).kept hkk hgxl)
    clear HO QI HBv hr hkk hor
    refine hK.out _ _ ⟨(unhide HBX).cell (i := 0) rfl, (unhide HBX).cell (i := 1) rfl, (unhide HBX).cell (i := 2) rfl, (unhide HBX).cell (i := 3) rfl, (unhide HBX).cell (i := 4) rfl, (unhide HBX).cell (i := 5) rfl, (unhide HBX).cell (i := 6) rfl⟩ (fun hHeld => ?_)
    clear hK K
    try simp only [Act.put, List.getElem_toArray, List.getElem_cons_succ, List.getElem_cons_zero, List.setIfInBounds_toArray, List.set_cons_zero, List.set_cons_succ]
    refine wpAnyH_take (i := 9) (v := ?_) rfl (by kernel_rfl) (by kernel_rfl) (by kernel_rfl) (fun _ _ _ h => h) (Or.inl ⟨by rfl, ?_⟩) (by assumption) ?_
    rotate_left
    · intro wy hSw
      obtain ⟨hS0, hS1, hS2, hS3, hS4, hS5, hS6⟩ := hSw
      go_simp
      try with_reducible rfl
    try simp only [Act.put, List.getElem_toArray, List.getElem_cons_succ, List.getElem_cons_zero, List.setIfInBounds_toArray, List.set_cons_zero, List.set_cons_succ]
    refine wpAnyH_take (i := 10) (v := ?_) rfl (by kernel_rfl) (by kernel_rfl) (by kernel_rfl) (fun _ _ _ h => h) (Or.inl ⟨by rfl, ?_⟩) (by assumption) ?_
    rotate_left
    · intro wy hSw
      obtain ⟨hS0, hS1, hS2, hS3, hS4, hS5, hS6⟩ := hSw
      go_simp
      try with_reducible rfl
    try simp only [Act.put, List.getElem_toArray, List.getElem_cons_succ, List.getElem_cons_zero, List.setIfInBounds_toArray, List.set_cons_zero, List.set_cons_succ]
    refine wpAnyH_ready (rs := [11]) (by kernel_rfl) (by simp) ?_
    refine AllReadyH.cons rfl (fun K hK => ?_) AllReadyH.nil
    have k1 := (unhide HOB).cell (i := 1) rfl
    have kf := (unhide HOB).frozen
    replace HBX := hide ((unhide HBX).other (a := ⟨go, 1, none⟩) hgxo (.slice (some ⟨g', 0, none⟩) (L2.length + 1) c'))
    go_simp
    refine hK.out _ _ ⟨(unhide HBX).cell (i := 0) rfl, (unhide HBX).cell (i := 1) rfl, (unhide HBX).cell (i := 2) rfl, (unhide HBX).cell (i := 3) rfl, (unhide HBX).cell (i := 4) rfl, (unhide HBX).cell (i := 5) rfl, (unhide HBX).cell (i := 6) rfl⟩ (fun hHeld => ?_)
    clear hK K k1 kf
    try simp only [Act.put, List.getElem_toArray, List.getElem_cons_succ, List.getElem_cons_zero, List.setIfInBounds_toArray, List.set_cons_zero, List.set_cons_succ]
    refine wpAnyH_done (by kernel_rfl) ?_ _
    go_wp2
    go_ret
    exact ofA_mk (unhide EF) (unhide HO9) (keptG ((unhide HKW).trans (keptR ((keptD (Kept.refl _ _)).trans ((kept_of_below (unhide HB3)).trans (unhide HK3))))) 1 _) (glp (unhide HOR) (Nat.le_trans hV2 (unhide HB3).size))

end Go.Proofs.Ytojlkdmlelgcbaa
