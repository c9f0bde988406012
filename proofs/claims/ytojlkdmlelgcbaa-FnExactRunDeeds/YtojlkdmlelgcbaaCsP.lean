/- Customs: words; the contract of the program's land. Written by wip/mkcsp.py. -/
import Derived.Test.YtojlkdmlelgcbaaCsO
import Derived.Deep.QuietTactic
import Derived.BigQuiet
import Derived.Deep.Cut
import Derived.Deep.RegionHeld3
namespace Go.Proofs.Ytojlkdmlelgcbaa
open Go.RowKit

theorem eLot_one (L : List LotT) : ∀ v ∈ recCells 7 eLot L, v.oneCell' = true := tyLot.cells L
theorem eLot_one1 (x : LotT) : ∀ v ∈ (List.range 7).map (eLot x), v.oneCell' = true := fun v hv => by
  obtain ⟨j, hj, rfl⟩ := List.mem_map.1 hv
  rw [List.mem_range] at hj
  have : j = 0 ∨ j = 1 ∨ j = 2 ∨ j = 3 ∨ j = 4 ∨ j = 5 ∨ j = 6 := by omega
  rcases this with rfl | rfl | rfl | rfl | rfl | rfl | rfl <;> rfl
/-- The office behind a deed: the row of lots may be another. -/
def OfA (w : World) (go gl gp : Nat) (ok : Bool) (r : HsT × Int) (e : Ending) (w' : World) : Prop :=
  ∃ gl' cap', e = .returned (.int .i64 r.2) ∧ Of w' go gl' cap' gp ok r.1.1 r.1.2.1 r.1.2.2 ∧ Kept (OfT go gl gp) w w' ∧ (gl' = gl ∨ w.heap.size ≤ gl')
theorem ofA_mk {w : World} {go gl gp : Nat} {ok : Bool} {r : HsT × Int} {L : List LotT} {P : List TraderT} {tk c : Int} {w' : World} {gl' cap' : Nat} (hr : r = ((L, P, tk), c)) (ho : Of w' go gl' cap' gp ok L P tk) (hk : Kept (OfT go gl gp) w w') (hg : gl' = gl ∨ w.heap.size ≤ gl') : OfA w go gl gp ok r (.returned (.int .i64 c)) w' := by
  subst hr; exact ⟨gl', cap', rfl, ho, hk, hg⟩
theorem glp {gl g' a b : Nat} (h : g' = gl ∨ b ≤ g') (hab : a ≤ b) : g' = gl ∨ a ≤ g' := h.imp id (fun x => Nat.le_trans hab x)
theorem keptB {go gl gp : Nat} {w w' : World} (h : Below w.heap.size w w') : Kept (OfT go gl gp) w w' := kept_of_below h
theorem keptR {go gl gp : Nat} {w w' : World} (h : Kept (fun b => b = gl) w w') : Kept (OfT go gl gp) w w' := h.mono fun _ _ e => Or.inr (Or.inl e)

set_option maxRecDepth 100000 in
set_option maxHeartbeats 6400000 in
theorem land_any (go gl cap gp : Nat) (ok : Bool) (L : List LotT) (P : List TraderT) (tk kd id ow ma va ra nw : Int) (w : World) (h : Of w go gl cap gp ok L P tk) (ha : AscL L) (hs : L.length ≤ 1048576) :
    Calls Try.prog 74 #[.pointer (some ⟨go, 0, none⟩), vDeed kd id ow ma va ra nw] w fun e w' => OfA w go gl gp ok (lanH (L, P, tk) (kd, id, ow, ma, va, ra, nw)) e w' := by
  have A := Below.alloc1 w (.cells #[.int .i64 kd, .int .i64 id, .int .i64 ow, .int .i64 ma, .int .i64 va, .int .i64 ra, .int .i64 nw] 34)
  have HD := hide (ownV_alloc w #[.int .i64 kd, .int .i64 id, .int .i64 ow, .int .i64 ma, .int .i64 va, .int .i64 ra, .int .i64 nw] 34)
  have HO := hide (h.step A)
  have HW := hide A
  have hlt0 := h.lt
  have ER : Hid (lanH (L, P, tk) (kd, id, ow, ma, va, ra, nw) = if roomL L id = false then ((L, P, tk), 2) else ((insL L (lplc L id) (id, ow, ma, va, ra, 1, 0), P, tk), 0)) := rfl
  have Q1 := hide fun V (hV : Of V go gl cap gp ok L P tk) => room_any go gl cap gp ok L P tk id V hV ha hs
  have hpl := lplc_le L id
  generalize lplc L id = k at *
  generalize lanH (L, P, tk) (kd, id, ow, ma, va, ra, nw) = R at *
  clear h A ha
  unfold vDeed
  go_enter Try.func74, Try.ntmps74
  go_upto_region 1 with (fail)
  obtain ⟨V0, eV⟩ : ∃ V, V = w.alloc (.cells #[.int .i64 kd, .int .i64 id, .int .i64 ow, .int .i64 ma, .int .i64 va, .int .i64 ra, .int .i64 nw] 34) := ⟨_, rfl⟩
  rw [← eV] at HD HO HW ⊢
  clear eV
  have q1 := (unhide HD).cell (i := 1) rfl
  go_wp2_with fail
  refine (unhide Q1 _ (unhide HO)).mono ?_
  rintro e V1 ⟨rfl, hb⟩
  replace HW := hide (Below.step (unhide HW) hb)
  replace HO := hide ((unhide HO).step hb)
  replace HD := hide ((unhide HD).step hb)
  clear hb Q1 q1
  cases hr : roomL L id with
  | false =>
    have EF : Hid (R = ((L, P, tk), 2)) := by show _ = _; rw [unhide ER, if_pos hr]
    go_wp2
    go_ret
    exact ofA_mk (unhide EF) (unhide HO) (keptB (unhide HW)) (Or.inl rfl)
  | true =>
    have EF : Hid (R = ((insL L k (id, ow, ma, va, ra, 1, 0), P, tk), 0)) := by show _ = _; rw [unhide ER, if_neg (by rw [hr]; simp)]
    clear ER hr
    have q1 := (unhide HD).cell (i := 1) rfl
    have q2 := (unhide HD).cell (i := 2) rfl
    have q3 := (unhide HD).cell (i := 3) rfl
    have q4 := (unhide HD).cell (i := 4) rfl
    have q5 := (unhide HD).cell (i := 5) rfl
    have A2 := Below.alloc1 V1 (.cells #[.int .i64 id, .int .i64 ow, .int .i64 ma, .int .i64 va, .int .i64 ra, .int .i64 1, .int .i64 0] 39)
    have HBX := hide (ownV_alloc V1 #[.int .i64 id, .int .i64 ow, .int .i64 ma, .int .i64 va, .int .i64 ra, .int .i64 1, .int .i64 0] 39)
    have hlt1 := (unhide HO).lt
    replace HW := hide (Below.step (unhide HW) A2)
    replace HO := hide ((unhide HO).step A2)
    go_upto_region 5 with (fail)
    obtain ⟨V2, eV⟩ : ∃ V, V = V1.alloc (.cells #[.int .i64 id, .int .i64 ow, .int .i64 ma, .int .i64 va, .int .i64 ra, .int .i64 1, .int .i64 0] 39) := ⟨_, rfl⟩
    rw [← eV] at HBX HO HW ⊢
    obtain ⟨gx, egx⟩ : ∃ g, g = V1.heap.size := ⟨_, rfl⟩
    rw [← egx] at HBX ⊢
    have hgxl : ¬ gx = gl := by omega
    have hgxo : gx ≠ go := by omega
    clear eV egx A2 q1 q2 q3 q4 q5 HD
    have hV2 := (unhide HW).size
    replace HO := hide ((unhide HO).step (Below.refl _ _).drew)
    replace HBX := hide ((unhide HBX).step (Below.refl _ _).drew)
    refine wp_region_held_drew (S := fun w' => w'.cell? ⟨gx, 0, none⟩ = some (.int .i64 id) ∧ w'.cell? ⟨gx, 1, none⟩ = some (.int .i64 ow) ∧ w'.cell? ⟨gx, 2, none⟩ = some (.int .i64 ma) ∧ w'.cell? ⟨gx, 3, none⟩ = some (.int .i64 va) ∧ w'.cell? ⟨gx, 4, none⟩ = some (.int .i64 ra) ∧ w'.cell? ⟨gx, 5, none⟩ = some (.int .i64 1) ∧ w'.cell? ⟨gx, 6, none⟩ = some (.int .i64 0)) (by kernel_rfl) ⟨(unhide HBX).cell (i := 0) rfl, (unhide HBX).cell (i := 1) rfl, (unhide HBX).cell (i := 2) rfl, (unhide HBX).cell (i := 3) rfl, (unhide HBX).cell (i := 4) rfl, (unhide HBX).cell (i := 5) rfl, (unhide HBX).cell (i := 6) rfl⟩ (fun hHeld => ?_)
    refine wpAnyH_take (i := 0) (v := ?_) rfl (by kernel_rfl) (by kernel_rfl) (by kernel_rfl) (fun _ _ _ h => h) (Or.inl ⟨by rfl, ?_⟩) (by assumption) ?_
    rotate_left
    · intro wy hSw
      obtain ⟨hS0, hS1, hS2, hS3, hS4, hS5, hS6⟩ := hSw
      go_simp
      try with_reducible rfl
    try simp only [Act.put, List.getElem_toArray, List.getElem_cons_zero, List.setIfInBounds_toArray, List.set_cons_zero, List.set_cons_succ]
    refine wpAnyH_take (i := 1) (v := ?_) rfl (by kernel_rfl) (by kernel_rfl) (by kernel_rfl) (fun _ _ _ h => h) (Or.inl ⟨by rfl, ?_⟩) (by assumption) ?_
    rotate_left
    · intro wy hSw
      obtain ⟨hS0, hS1, hS2, hS3, hS4, hS5, hS6⟩ := hSw
      go_simp
      try with_reducible rfl
    try simp only [Act.put, List.getElem_toArray, List.getElem_cons_succ, List.getElem_cons_zero, List.setIfInBounds_toArray, List.set_cons_zero, List.set_cons_succ]
    refine wpAnyH_take (i := 2) (v := ?_) rfl (by kernel_rfl) (by kernel_rfl) (by kernel_rfl) (fun _ _ _ h => h) (Or.inl ⟨by rfl, ?_⟩) (by assumption) ?_
    rotate_left
    · intro wy hSw
      obtain ⟨hS0, hS1, hS2, hS3, hS4, hS5, hS6⟩ := hSw
      go_simp
      try with_reducible rfl
    try simp only [Act.put, List.getElem_toArray, List.getElem_cons_succ, List.getElem_cons_zero, List.setIfInBounds_toArray, List.set_cons_zero, List.set_cons_succ]
    refine wpAnyH_take (i := 3) (v := ?_) rfl (by kernel_rfl) (by kernel_rfl) (by kernel_rfl) (fun _ _ _ h => h) (Or.inl ⟨by rfl, ?_⟩) (by assumption) ?_
    rotate_left
    · intro wy hSw
      obtain ⟨hS0, hS1, hS2, hS3, hS4, hS5, hS6⟩ := hSw
      go_simp
      try with_reducible rfl
    try simp only [Act.put, List.getElem_toArray, List.getElem_cons_succ, List.getElem_cons_zero, List.setIfInBounds_toArray, List.set_cons_zero, List.set_cons_succ]
    refine wpAnyH_take (i := 5) (v := ?_) rfl (by kernel_rfl) (by kernel_rfl) (by kernel_rfl) (fun _ _ _ h => h) (Or.inl ⟨by rfl, ?_⟩) (by assumption) ?_
    rotate_left
    · intro wy hSw
      obtain ⟨hS0, hS1, hS2, hS3, hS4, hS5, hS6⟩ := hSw
      go_simp
      try with_reducible rfl
    try simp only [Act.put, List.getElem_toArray, List.getElem_cons_succ, List.getElem_cons_zero, List.setIfInBounds_toArray, List.set_cons_zero, List.set_cons_succ]
    refine wpAnyH_take (i := 6) (v := ?_) rfl (by kernel_rfl) (by kernel_rfl) (by kernel_rfl) (fun _ _ _ h => h) (Or.inl ⟨by rfl, ?_⟩) (by assumption) ?_
    rotate_left
    · intro wy hSw
      obtain ⟨hS0, hS1, hS2, hS3, hS4, hS5, hS6⟩ := hSw
      go_simp
      try with_reducible rfl
    try simp only [Act.put, List.getElem_toArray, List.getElem_cons_succ, List.getElem_cons_zero, List.setIfInBounds_toArray, List.set_cons_zero, List.set_cons_succ]
    refine wpAnyH_ready (rs := [4, 7]) (by kernel_rfl) (by simp) ?_
    refine AllReadyH.cons rfl (fun K hK => ?_) ?_
    · have c1 := (unhide HO).box.cell (i := 1) rfl
      go_simp
      refine hK.out _ _ ⟨(unhide HBX).cell (i := 0) rfl, (unhide HBX).cell (i := 1) rfl, (unhide HBX).cell (i := 2) rfl, (unhide HBX).cell (i := 3) rfl, (unhide HBX).cell (i := 4) rfl, (unhide HBX).cell (i := 5) rfl, (unhide HBX).cell (i := 6) rfl⟩ (fun hHeld => ?_)
      clear hK K c1
      try simp only [Act.put, List.getElem_toArray, List.getElem_cons_succ, List.getElem_cons_zero, List.setIfInBounds_toArray, List.set_cons_zero, List.set_cons_succ]
      refine wpAnyH_ready (rs := [7]) (by kernel_rfl) (by simp) ?_
      refine AllReadyH.cons rfl (fun K hK => ?_) AllReadyH.nil
      have A9 : Below (World.drew V2).heap.size (World.drew V2) (World.drew (V2.alloc (.cells #[.int .i64 id, .int .i64 ow, .int .i64 ma, .int .i64 va, .int .i64 ra, .int .i64 1, .int .i64 0] 39))) := Below.alloc1 (World.drew V2) (.cells #[.int .i64 id, .int .i64 ow, .int .i64 ma, .int .i64 va, .int .i64 ra, .int .i64 1, .int .i64 0] 39)
      have HBv : Hid (Blk (World.drew (V2.alloc (.cells #[.int .i64 id, .int .i64 ow, .int .i64 ma, .int .i64 va, .int .i64 ra, .int .i64 1, .int .i64 0] 39))) V2.heap.size 39 ((List.range 7).map (eLot (id, ow, ma, va, ra, 1, 0)))) := by
        show Blk _ _ _ _
        rw [show (List.range 7).map (eLot (id, ow, ma, va, ra, 1, 0)) = [.int .i64 id, .int .i64 ow, .int .i64 ma, .int .i64 va, .int .i64 ra, .int .i64 1, .int .i64 0] by simp [List.range, List.range.loop, eLot]]
        exact Go.Deep.blk_alloc_new (World.drew V2) _
      have hltV := (unhide HO).lt
      replace HO := hide ((unhide HO).step A9)
      replace HBX := hide ((unhide HBX).step A9)
      have HB3 := hide A9
      clear A9
      go_simp
      refine hK.out _ _ ⟨(unhide HBX).cell (i := 0) rfl, (unhide HBX).cell (i := 1) rfl, (unhide HBX).cell (i := 2) rfl, (unhide HBX).cell (i := 3) rfl, (unhide HBX).cell (i := 4) rfl, (unhide HBX).cell (i := 5) rfl, (unhide HBX).cell (i := 6) rfl⟩ (fun hHeld => ?_)
      clear hK K
      try simp only [Act.put, List.getElem_toArray, List.getElem_cons_succ, List.getElem_cons_zero, List.setIfInBounds_toArray, List.set_cons_zero, List.set_cons_succ]
      generalize World.drew (V2.alloc (.cells #[.int .i64 id, .int .i64 ow, .int .i64 ma, .int .i64 va, .int .i64 ra, .int .i64 1, .int .i64 0] 39)) = V3 at *
      refine wpAnyH_ready (rs := [8]) (by kernel_rfl) (by simp) ?_
      refine AllReadyH.cons rfl (fun K hK => ?_) AllReadyH.nil
      have QI := hide (insLot_any gl L.length cap k V2.heap.size L (id, ow, ma, va, ra, 1, 0) _ (unhide HO).row (unhide HBv) (by have := hltV.2.1; show V2.heap.size ≠ gl; have e9 : (World.drew V2).heap.size = V2.heap.size := rfl; omega) hpl hs (eLot_one L) (eLot_one1 _))
      go_simp
      refine (unhide QI).mono ?_
      rintro e w3 ⟨g', c', rfl, hr, hkk, hor⟩
      have HK3 := hide hkk
      have HO9 := hide ((unhide HO).putRow hkk hr (by rw [insL_len]) hor)
      have HOB := hide ((unhide HO).box.kept hkk (unhide HO).ap.1)
      have HOR := hide hor
      replace HBX := hide ((unhide HBX).kept hkk hgxl)
      clear HO QI HBv hr hkk hor
      refine hK.out _ _ ⟨(unhide HBX).cell (i := 0) rfl, (unhide HBX).cell (i := 1) rfl, (unhide HBX).cell (i := 2) rfl, (unhide HBX).cell (i := 3) rfl, (unhide HBX).cell (i := 4) rfl, (unhide HBX).cell (i := 5) rfl, (unhide HBX).cell (i := 6) rfl⟩ (fun hHeld => ?_)
      clear hK K
      try simp only [Act.put, List.getElem_toArray, List.getElem_cons_succ, List.getElem_cons_zero, List.setIfInBounds_toArray, List.set_cons_zero, List.set_cons_succ]
      refine wpAnyH_take (i := 9) (v := ?_) rfl (by kernel_rfl) (by kernel_rfl) (by kernel_rfl) (fun _ _ _ h => h) (Or.inl ⟨by rfl, ?_⟩) (by assumption) ?_
      rotate_left
      · intro wy hSw
        obtain ⟨hS0, hS1, hS2, hS3, hS4, hS5, hS6⟩ := hSw
        go_simp
        try with_reducible rfl
      try simp only [Act.put, List.getElem_toArray, List.getElem_cons_succ, List.getElem_cons_zero, List.setIfInBounds_toArray, List.set_cons_zero, List.set_cons_succ]
      refine wpAnyH_take (i := 10) (v := ?_) rfl (by kernel_rfl) (by kernel_rfl) (by kernel_rfl) (fun _ _ _ h => h) (Or.inl ⟨by rfl, ?_⟩) (by assumption) ?_
      rotate_left
      · intro wy hSw
        obtain ⟨hS0, hS1, hS2, hS3, hS4, hS5, hS6⟩ := hSw
        go_simp
        try with_reducible rfl
      try simp only [Act.put, List.getElem_toArray, List.getElem_cons_succ, List.getElem_cons_zero, List.setIfInBounds_toArray, List.set_cons_zero, List.set_cons_succ]
      refine wpAnyH_ready (rs := [11]) (by kernel_rfl) (by simp) ?_
      refine AllReadyH.cons rfl (fun K hK => ?_) AllReadyH.nil
      have k1 := (unhide HOB).cell (i := 1) rfl
      have kf := (unhide HOB).frozen
      replace HBX := hide ((unhide HBX).other (a := ⟨go, 1, none⟩) hgxo (.slice (some ⟨g', 0, none⟩) (L.length + 1) c'))
      go_simp
      refine hK.out _ _ ⟨(unhide HBX).cell (i := 0) rfl, (unhide HBX).cell (i := 1) rfl, (unhide HBX).cell (i := 2) rfl, (unhide HBX).cell (i := 3) rfl, (unhide HBX).cell (i := 4) rfl, (unhide HBX).cell (i := 5) rfl, (unhide HBX).cell (i := 6) rfl⟩ (fun hHeld => ?_)
      clear hK K k1 kf
      try simp only [Act.put, List.getElem_toArray, List.getElem_cons_succ, List.getElem_cons_zero, List.setIfInBounds_toArray, List.set_cons_zero, List.set_cons_succ]
      refine wpAnyH_done (by kernel_rfl) ?_ _
      go_wp2
      go_ret
      exact ofA_mk (unhide EF) (unhide HO9) (keptG ((keptB (unhide HW)).trans (keptR ((keptD (Kept.refl _ _)).trans ((kept_of_below (unhide HB3)).trans (unhide HK3))))) 1 _) (glp (unhide HOR) (Nat.le_trans hV2 (unhide HB3).size))
    refine AllReadyH.cons rfl (fun K hK => ?_) AllReadyH.nil
    have A9 : Below (World.drew V2).heap.size (World.drew V2) (World.drew (V2.alloc (.cells #[.int .i64 id, .int .i64 ow, .int .i64 ma, .int .i64 va, .int .i64 ra, .int .i64 1, .int .i64 0] 39))) := Below.alloc1 (World.drew V2) (.cells #[.int .i64 id, .int .i64 ow, .int .i64 ma, .int .i64 va, .int .i64 ra, .int .i64 1, .int .i64 0] 39)
    have HBv : Hid (Blk (World.drew (V2.alloc (.cells #[.int .i64 id, .int .i64 ow, .int .i64 ma, .int .i64 va, .int .i64 ra, .int .i64 1, .int .i64 0] 39))) V2.heap.size 39 ((List.range 7).map (eLot (id, ow, ma, va, ra, 1, 0)))) := by
      show Blk _ _ _ _
      rw [show (List.range 7).map (eLot (id, ow, ma, va, ra, 1, 0)) = [.int .i64 id, .int .i64 ow, .int .i64 ma, .int .i64 va, .int .i64 ra, .int .i64 1, .int .i64 0] by simp [List.range, List.range.loop, eLot]]
      exact Go.Deep.blk_alloc_new (World.drew V2) _
    have hltV := (unhide HO).lt
    replace HO := hide ((unhide HO).step A9)
    replace HBX := hide ((unhide HBX).step A9)
    have HB3 := hide A9
    clear A9
    go_simp
    refine hK.out _ _ ⟨(unhide HBX).cell (i := 0) rfl, (unhide HBX).cell (i := 1) rfl, (unhide HBX).cell (i := 2) rfl, (unhide HBX).cell (i := 3) rfl, (unhide HBX).cell (i := 4) rfl, (unhide HBX).cell (i := 5) rfl, (unhide HBX).cell (i := 6) rfl⟩ (fun hHeld => ?_)
    clear hK K
    try simp only [Act.put, List.getElem_toArray, List.getElem_cons_succ, List.getElem_cons_zero, List.setIfInBounds_toArray, List.set_cons_zero, List.set_cons_succ]
    generalize World.drew (V2.alloc (.cells #[.int .i64 id, .int .i64 ow, .int .i64 ma, .int .i64 va, .int .i64 ra, .int .i64 1, .int .i64 0] 39)) = V3 at *
    refine wpAnyH_ready (rs := [4]) (by kernel_rfl) (by simp) ?_
    refine AllReadyH.cons rfl (fun K hK => ?_) AllReadyH.nil
    have c1 := (unhide HO).box.cell (i := 1) rfl
    go_simp
    refine hK.out _ _ ⟨(unhide HBX).cell (i := 0) rfl, (unhide HBX).cell (i := 1) rfl, (unhide HBX).cell (i := 2) rfl, (unhide HBX).cell (i := 3) rfl, (unhide HBX).cell (i := 4) rfl, (unhide HBX).cell (i := 5) rfl, (unhide HBX).cell (i := 6) rfl⟩ (fun hHeld => ?_)
    clear hK K c1
    try simp only [Act.put, List.getElem_toArray, List.getElem_cons_succ, List.getElem_cons_zero, List.setIfInBounds_toArray, List.set_cons_zero, List.set_cons_succ]
    refine wpAnyH_ready (rs := [8]) (by kernel_rfl) (by simp) ?_
    refine AllReadyH.cons rfl (fun K hK => ?_) AllReadyH.nil
    have QI := hide (insLot_any gl L.length cap k V2.heap.size L (id, ow, ma, va, ra, 1, 0) _ (unhide HO).row (unhide HBv) (by have := hltV.2.1; show V2.heap.size ≠ gl; have e9 : (World.drew V2).heap.size = V2.heap.size := rfl; omega) hpl hs (eLot_one L) (eLot_one1 _))
    go_simp
    refine (unhide QI).mono ?_
    rintro e w3 ⟨g', c', rfl, hr, hkk, hor⟩
    have HK3 := hide hkk
    have HO9 := hide ((unhide HO).putRow hkk hr (by rw [insL_len]) hor)
    have HOB := hide ((unhide HO).box.kept hkk (unhide HO).ap.1)
    have HOR := hide hor
    replace HBX := hide ((unhide HBX).kept hkk hgxl)
    clear HO QI HBv hr hkk hor
    refine hK.out _ _ ⟨(unhide HBX).cell (i := 0) rfl, (unhide HBX).cell (i := 1) rfl, (unhide HBX).cell (i := 2) rfl, (unhide HBX).cell (i := 3) rfl, (unhide HBX).cell (i := 4) rfl, (unhide HBX).cell (i := 5) rfl, (unhide HBX).cell (i := 6) rfl⟩ (fun hHeld => ?_)
    clear hK K
    try simp only [Act.put, List.getElem_toArray, List.getElem_cons_succ, List.getElem_cons_zero, List.setIfInBounds_toArray, List.set_cons_zero, List.set_cons_succ]
    refine wpAnyH_take (i := 9) (v := ?_) rfl (by kernel_rfl) (by kernel_rfl) (by kernel_rfl) (fun _ _ _ h => h) (Or.inl ⟨by rfl, ?_⟩) (by assumption) ?_
    rotate_left
    · intro wy hSw
      obtain ⟨hS0, hS1, hS2, hS3, hS4, hS5, hS6⟩ := hSw
      go_simp
      try with_reducible rfl
    try simp only [Act.put, List.getElem_toArray, List.getElem_cons_succ, List.getElem_cons_zero, List.setIfInBounds_toArray, List.set_cons_zero, List.set_cons_succ]
    refine wpAnyH_take (i := 10) (v := ?_) rfl (by kernel_rfl) (by kernel_rfl) (by kernel_rfl) (fun _ _ _ h => h) (Or.inl ⟨by rfl, ?_⟩) (by assumption) ?_
    rotate_left
    · intro wy hSw
      obtain ⟨hS0, hS1, hS2, hS3, hS4, hS5, hS6⟩ := hSw
      go_simp
      try with_reducible rfl
    try simp only [Act.put, List.getElem_toArray, List.getElem_cons_succ, List.getElem_cons_zero, List.setIfInBounds_toArray, List.set_cons_zero, List.set_cons_succ]
    refine wpAnyH_ready (rs := [11]) (by kernel_rfl) (by simp) ?_
    refine AllReadyH.cons rfl (fun K hK => ?_) AllReadyH.nil
    have k1 := (unhide HOB).cell (i := 1) rfl
    have kf := (unhide HOB).frozen
    replace HBX := hide ((unhide HBX).other (a := ⟨go, 1, none⟩) hgxo (.slice (some ⟨g', 0, none⟩) (L.length + 1) c'))
    go_simp
    refine hK.out _ _ ⟨(unhide HBX).cell (i := 0) rfl, (unhide HBX).cell (i := 1) rfl, (unhide HBX).cell (i := 2) rfl, (unhide HBX).cell (i := 3) rfl, (unhide HBX).cell (i := 4) rfl, (unhide HBX).cell (i := 5) rfl, (unhide HBX).cell (i := 6) rfl⟩ (fun hHeld => ?_)
    clear hK K k1 kf
    try simp only [Act.put, List.getElem_toArray, List.getElem_cons_succ, List.getElem_cons_zero, List.setIfInBounds_toArray, List.set_cons_zero, List.set_cons_succ]
    refine wpAnyH_done (by kernel_rfl) ?_ _
    go_wp2
    go_ret
    exact ofA_mk (unhide EF) (unhide HO9) (keptG ((keptB (unhide HW)).trans (keptR ((keptD (Kept.refl _ _)).trans ((kept_of_below (unhide HB3)).trans (unhide HK3))))) 1 _) (glp (unhide HOR) (Nat.le_trans hV2 (unhide HB3).size))

end Go.Proofs.Ytojlkdmlelgcbaa
