/- Customs: the contract of the program's officeOf. Written by wip/mkcss.py. -/
import Derived.Test.YtojlkdmlelgcbaaCsR
import Derived.Test.YtojlkdmlelgcbaaCsG
import Derived.BigRegion
namespace Go.Proofs.Ytojlkdmlelgcbaa
open Go.RowKit

/-- Traders, the rest empty purses. -/
def padT (n : Nat) (T : List TraderT) : List TraderT := T ++ List.replicate (n - T.length) (0, 0, 0)
theorem padT_len {n : Nat} {T : List TraderT} (h : T.length ≤ n) : (padT n T).length = n := by simp [padT]; omega
theorem padT_full {T : List TraderT} : padT T.length T = T := by simp [padT]
theorem padT_at {n : Nat} {T : List TraderT} (h : T.length < n) : (padT n T).getD T.length default = (0, 0, 0) := by
  have h0 : 0 < n - T.length := by omega
  simp [padT, List.getD, h0]
theorem padT_set {n : Nat} {T : List TraderT} (h : T.length < n) (x : TraderT) : (padT n T).set T.length x = padT n (T ++ [x]) := by
  obtain ⟨d, hd⟩ : ∃ d, n - T.length = d + 1 := ⟨n - T.length - 1, by omega⟩
  have hd' : n - (T ++ [x]).length = d := by simp; omega
  unfold padT
  rw [hd, hd', List.replicate_succ, List.set_append]
  simp
theorem padT_nil {n i : Nat} (h : i < n) : (padT n []).getD i default = (0, 0, 0) := by simp [padT, List.getD, h]
theorem made_pur (n : Nat) : (madeCells (Value.agg #[.int .i32 0, .int .u32 0, .int .i64 0, .int .i64 0, .int .i64 0]).cells (n * 5)).toList = recCells 5 ePur (padT n []) := by
  have hl : (recCells 5 ePur (padT n [])).length = n * 5 := by rw [recCells_length, padT_len (by simp)]
  apply List.ext_getElem
  · rw [hl]; simp [madeCells]
  · intro i h1 h2
    rw [hl] at h2
    have e := recCells_get (n := 5) (enc := ePur) (L := padT n []) (i := i / 5) (j := i % 5) (by rw [padT_len (by simp)]; omega) (by omega)
    rw [show i / 5 * 5 + i % 5 = i by omega, padT_nil (show i / 5 < n by omega)] at e
    have e2 := (List.getElem?_eq_some_iff.1 e).2
    rw [e2]
    simp only [madeCells, Array.toList_map, Array.toList_range, List.getElem_map, List.getElem_range]
    have : i % 5 = 0 ∨ i % 5 = 1 ∨ i % 5 = 2 ∨ i % 5 = 3 ∨ i % 5 = 4 := by omega
    rcases this with e | e | e | e | e <;> simp [Value.cells, e, ePur]
theorem made_purses (w : World) (n : Nat) (t : TypeId) : OwnV (w.alloc (.cells (madeCells (Value.agg #[.int .i32 0, .int .u32 0, .int .i64 0, .int .i64 0, .int .i64 0]).cells (n * 5)) t)) w.heap.size (recCells 5 ePur (padT n [])) := by
  rw [← made_pur]
  exact ownV_alloc w _ t
/-- A purse is filled: three cells. -/
theorem pur_fill {w : World} {g i : Nat} {P : List TraderT} (h : OwnV w g (recCells 5 ePur P)) (hi : i < P.length) (x y z : Int) :
    OwnV (((w.setCell ⟨g, i * 5 + 2, none⟩ (.int .i64 x)).setCell ⟨g, i * 5 + 2 + 1, none⟩ (.int .i64 y)).setCell ⟨g, i * 5 + 2 + 2, none⟩ (.int .i64 z)) g (recCells 5 ePur (P.set i (x, y, z))) := by
  obtain ⟨p, ep⟩ : ∃ p, p = P.getD i default := ⟨_, rfl⟩
  obtain ⟨a, b, c⟩ := p
  have J : ∀ j' : Nat, j' < 5 → j' = 0 ∨ j' = 1 ∨ j' = 2 ∨ j' = 3 ∨ j' = 4 := fun _ _ => by omega
  have e1 := recG_set (n := 5) (enc := ePur) P (i := i) (j := 2) (by omega) hi (x, b, c) (fun j' h1 h2 => by rw [← ep]; rcases J j' h1 with rfl | rfl | rfl | rfl | rfl <;> first | rfl | exact absurd rfl h2)
  have g1 : (P.set i (x, b, c)).getD i default = (x, b, c) := by rw [set_get default P hi, if_pos rfl]
  have e2 := recG_set (n := 5) (enc := ePur) (P.set i (x, b, c)) (i := i) (j := 3) (by omega) (by rw [List.length_set]; exact hi) (x, y, c) (fun j' h1 h2 => by rw [g1]; rcases J j' h1 with rfl | rfl | rfl | rfl | rfl <;> first | rfl | exact absurd rfl h2)
  rw [List.set_set] at e2
  have g2 : (P.set i (x, y, c)).getD i default = (x, y, c) := by rw [set_get default P hi, if_pos rfl]
  have e3 := recG_set (n := 5) (enc := ePur) (P.set i (x, y, c)) (i := i) (j := 4) (by omega) (by rw [List.length_set]; exact hi) (x, y, z) (fun j' h1 h2 => by rw [g2]; rcases J j' h1 with rfl | rfl | rfl | rfl | rfl <;> first | rfl | exact absurd rfl h2)
  rw [List.set_set] at e3
  have hl : i * 5 + 4 < (recCells 5 ePur P).length := by rw [recCells_length]; omega
  have o1 := h.set (i * 5 + 2) (.int .i64 x) (by omega)
  rw [show (Value.int .i64 x) = ePur (x, b, c) 2 from rfl, e1] at o1
  have o2 := o1.set (i * 5 + 3) (.int .i64 y) (by rw [recCells_length, List.length_set]; omega)
  rw [show (Value.int .i64 y) = ePur (x, y, c) 3 from rfl, e2] at o2
  have o3 := o2.set (i * 5 + 4) (.int .i64 z) (by rw [recCells_length, List.length_set]; omega)
  rw [show (Value.int .i64 z) = ePur (x, y, z) 4 from rfl, e3] at o3
  exact o3
theorem kept3p (w : World) (g i j k : Nat) (u v x : Value) : Kept (fun b => b = g) w (((w.setCell ⟨g, i, none⟩ u).setCell ⟨g, j, none⟩ v).setCell ⟨g, k, none⟩ x) := kept3 w g i j k u v x
theorem lot_src {w : World} {ao : Option Addr} {cap : Nat} {L : List LotT} (h : RLot w (.slice ao L.length cap) L) : 0 < L.length → ∃ ad, ao = some ad ∧ ∀ j v, (recCells 7 eLot L)[j]? = some v → w.cell? (ad.add j) = some v := fun hp => by
  obtain ⟨ao', cap', e, _, _, hc⟩ := h
  simp only [Value.slice.injEq, true_and] at e
  obtain ⟨rfl, rfl⟩ := e
  obtain ⟨b, o, e, _⟩ := hc 0 hp
  subst e
  refine ⟨_, rfl, fun q v hq => ?_⟩
  have hq2 : q < L.length * 7 := by
    have := (List.getElem?_eq_some_iff.1 hq).1
    rwa [recCells_length] at this
  obtain ⟨b', o', e, hcc⟩ := hc (q / 7) (by omega)
  simp only [Option.some.injEq, Addr.mk.injEq, and_true] at e
  obtain ⟨rfl, rfl⟩ := e
  have h2 := hcc (q % 7) (by omega)
  have h3 := recCells_get (n := 7) (enc := eLot) (L := L) (i := q / 7) (j := q % 7) (by omega) (by omega)
  rw [show q / 7 * 7 + q % 7 = q by omega] at h2 h3
  rw [h3] at hq
  rw [Addr.add_lit, h2]
  exact hq
theorem ownCopyLot_r (V : World) {ao : Option Addr} {cap : Nat} {L : List LotT} (h : RLot V (.slice ao L.length cap) L) (hs : L.length ≤ 1048576) :
    Calls Try.prog 72 #[.slice ao L.length cap] V fun e w' => ∃ g, e = .returned (.slice (some ⟨g, 0, none⟩) L.length L.length) ∧ V.heap.size ≤ g ∧ Blk w' g 39 (recCells 7 eLot L) ∧ Below V.heap.size V w' :=
  ownCopyLot_blk ao L.length cap (recCells 7 eLot L) V (by rw [recCells_length]) (eLot_one L) (lot_src h) hs
/-- The office as it is made. -/
def OfN (w : World) (L : List LotT) (T : List TraderT) (tk : Int) (e : Ending) (w' : World) : Prop :=
  ∃ go gl gp, e = .returned (.pointer (some ⟨go, 0, none⟩)) ∧ Of w' go gl L.length gp (houseB (L, T, tk)) L T tk ∧ w.heap.size ≤ go ∧ w.heap.size ≤ gl ∧ w.heap.size ≤ gp ∧ Below w.heap.size w w'

set_option maxRecDepth 1000000 in
set_option maxHeartbeats 12800000 in
theorem officeOf_any (lv tv : Value) (L : List LotT) (T : List TraderT) (tk : Int) (w : World) (h : HsIn w lv tv (L, T, tk)) (hs : L.length ≤ 1048576) (hT : T.length ≤ 1048576) :
    Calls Try.prog 43 #[vHouse lv tv tk] w fun e w' => OfN w L T tk e w' := by
  have HV := hide h
  obtain ⟨h1, h2⟩ := h
  dsimp only at h1 h2
  obtain ⟨ao, lcap, rfl, hl, hm, hcl⟩ := h1
  obtain ⟨fo, fcap, rfl, hfl, hfm, hct⟩ := h2
  unfold maxLen at hm hfm
  have HT := hide hct
  have A := Below.alloc1 w (.cells #[.slice ao L.length lcap, .slice fo T.length fcap, .int .i64 tk] 27)
  have HO := hide (ownV_alloc w #[.slice ao L.length lcap, .slice fo T.length fcap, .int .i64 tk] 27)
  have HW := hide A
  have QH := hide fun V (hV : Below w.heap.size w V) => implHouseOk_any _ _ L T tk V ((unhide HV).below hV)
  have QC := hide fun V (hV : Below w.heap.size w V) => ownCopyLot_r V ((unhide HV).1.below hV) hs
  have hmk := run_make_recs (P := Try.prog) 112 123 _ 5 32 Try.underlying112 Try.infoPurse .i64 .i64 T.length (by omega) (by omega)
  have HMK := hide fun (V : World) => made_purses V T.length 123
  obtain ⟨Z, eZ⟩ : ∃ Z, Z = (Value.agg #[.int .i32 0, .int .u32 0, .int .i64 0, .int .i64 0, .int .i64 0]).cells := ⟨_, rfl⟩
  rw [← eZ] at hmk HMK
  obtain ⟨ok, eok⟩ : ∃ b, b = houseB (L, T, tk) := ⟨_, rfl⟩
  rw [← eok] at QH
  unfold OfN
  rw [← eok]
  clear hcl hct A eZ eok
  unfold vHouse at QH ⊢
  go_enter Try.func43, Try.ntmps43
  go_upto_region 1 with (fail)
  obtain ⟨V0, eV⟩ : ∃ V, V = w.alloc (.cells #[.slice ao L.length lcap, .slice fo T.length fcap, .int .i64 tk] 27) := ⟨_, rfl⟩
  rw [← eV] at HO HW ⊢
  clear eV
  have hV0 : w.heap.size < V0.heap.size := (unhide HO).lt
  have a0 := (unhide HO).cell (i := 0) rfl
  have a1 := (unhide HO).cell (i := 1) rfl
  have a2 := (unhide HO).cell (i := 2) rfl
  go_cut [3] (fun s3 wx => ∃ go gl gp, s3 = .pointer (some ⟨go, 0, none⟩) ∧ Hid (Below w.heap.size w wx) ∧ Hid (OwnV wx w.heap.size [.slice ao L.length lcap, .slice fo T.length fcap, .int .i64 tk]) ∧ Of wx go gl L.length gp ok L (padT T.length []) tk ∧ w.heap.size < go ∧ w.heap.size < gl ∧ w.heap.size < gp)
  case first =>
    clear a0 a1 a2
    replace HO := hide ((unhide HO).step (Below.refl _ _).drew)
    replace HW := hide (unhide HW).drew
    refine wp_region_held_drew (S := fun w' => w'.cell? ⟨w.heap.size, 0, none⟩ = some (.slice ao L.length lcap) ∧ w'.cell? ⟨w.heap.size, 1, none⟩ = some (.slice fo T.length fcap) ∧ w'.cell? ⟨w.heap.size, 2, none⟩ = some (.int .i64 tk)) (by kernel_rfl) ⟨(unhide HO).cell (i := 0) rfl, (unhide HO).cell (i := 1) rfl, (unhide HO).cell (i := 2) rfl⟩ (fun hHeld => ?_)
    generalize World.drew V0 = VD at *
    refine wpAnyH_take (i := 0) (v := ?_) rfl (by kernel_rfl) (by kernel_rfl) (by kernel_rfl) (fun _ _ _ h => h) (Or.inl ⟨by rfl, ?_⟩) (by assumption) ?_
    rotate_left
    · intro wy hSw
      obtain ⟨hS0, hS1, hS2⟩ := hSw
      go_simp
      try with_reducible rfl
    try simp only [Act.put, List.getElem_toArray, List.getElem_cons_zero, List.setIfInBounds_toArray, List.set_cons_zero, List.set_cons_succ]
    refine wpAnyH_take (i := 2) (v := ?_) rfl (by kernel_rfl) (by kernel_rfl) (by kernel_rfl) (fun _ _ _ h => h) (Or.inl ⟨by rfl, ?_⟩) (by assumption) ?_
    rotate_left
    · intro wy hSw
      obtain ⟨hS0, hS1, hS2⟩ := hSw
      go_simp
      try with_reducible rfl
    try simp only [Act.put, List.getElem_toArray, List.getElem_cons_succ, List.getElem_cons_zero, List.setIfInBounds_toArray, List.set_cons_zero, List.set_cons_succ]
    refine wpAnyH_take (i := 3) (v := ?_) rfl (by kernel_rfl) (by kernel_rfl) (by kernel_rfl) (fun _ _ _ h => h) (Or.inl ⟨by rfl, ?_⟩) (by assumption) ?_
    rotate_left
    · intro wy hSw
      obtain ⟨hS0, hS1, hS2⟩ := hSw
      go_simp
      try with_reducible rfl
    try simp only [Act.put, List.getElem_toArray, List.getElem_cons_succ, List.getElem_cons_zero, List.setIfInBounds_toArray, List.set_cons_zero, List.set_cons_succ]
    refine wpAnyH_take (i := 5) (v := ?_) rfl (by kernel_rfl) (by kernel_rfl) (by kernel_rfl) (fun _ _ _ h => h) (Or.inl ⟨by rfl, ?_⟩) (by assumption) ?_
    rotate_left
    · intro wy hSw
      obtain ⟨hS0, hS1, hS2⟩ := hSw
      go_simp
      try with_reducible rfl
    try simp only [Act.put, List.getElem_toArray, List.getElem_cons_succ, List.getElem_cons_zero, List.setIfInBounds_toArray, List.set_cons_zero, List.set_cons_succ]
    refine wpAnyH_take (i := 6) (v := ?_) rfl (by kernel_rfl) (by kernel_rfl) (by kernel_rfl) (fun _ _ _ h => h) (Or.inl ⟨by rfl, ?_⟩) (by assumption) ?_
    rotate_left
    · intro wy hSw
      obtain ⟨hS0, hS1, hS2⟩ := hSw
      go_simp
      try with_reducible rfl
    try simp only [Act.put, List.getElem_toArray, List.getElem_cons_succ, List.getElem_cons_zero, List.setIfInBounds_toArray, List.set_cons_zero, List.set_cons_succ]
    refine wpAnyH_take (i := 7) (v := ?_) rfl (by kernel_rfl) (by kernel_rfl) (by kernel_rfl) (fun _ _ _ h => h) (Or.inl ⟨by rfl, ?_⟩) (by assumption) ?_
    rotate_left
    · intro wy hSw
      obtain ⟨hS0, hS1, hS2⟩ := hSw
      go_simp
      try with_reducible rfl
    try simp only [Act.put, List.getElem_toArray, List.getElem_cons_succ, List.getElem_cons_zero, List.setIfInBounds_toArray, List.set_cons_zero, List.set_cons_succ]
    refine wpAnyH_take (i := 9) (v := ?_) rfl (by kernel_rfl) (by kernel_rfl) (by kernel_rfl) (fun _ _ _ h => h) (Or.inl ⟨by rfl, ?_⟩) (by assumption) ?_
    rotate_left
    · intro wy hSw
      obtain ⟨hS0, hS1, hS2⟩ := hSw
      go_simp
      try with_reducible rfl
    try simp only [Act.put, List.getElem_toArray, List.getElem_cons_succ, List.getElem_cons_zero, List.setIfInBounds_toArray, List.set_cons_zero, List.set_cons_succ]
    refine wpAnyH_take (i := 10) (v := ?_) rfl (by kernel_rfl) (by kernel_rfl) (by kernel_rfl) (fun _ _ _ h => h) (Or.inl ⟨by rfl, ?_⟩) (by assumption) ?_
    rotate_left
    · intro wy hSw
      obtain ⟨hS0, hS1, hS2⟩ := hSw
      go_simp
      try with_reducible rfl
    try simp only [Act.put, List.getElem_toArray, List.getElem_cons_succ, List.getElem_cons_zero, List.setIfInBounds_toArray, List.set_cons_zero, List.set_cons_succ]
    refine wpAnyH_ready (rs := [1, 8]) (by kernel_rfl) (by simp) ?_
    refine AllReadyH.cons rfl (fun K hK => ?_) ?_
    · go_simp
      refine (unhide QH _ (unhide HW)).mono ?_
      rintro e wa ⟨rfl, hb⟩
      replace HW := hide (Below.step (unhide HW) hb)
      replace HO := hide ((unhide HO).step hb)
      clear hb
      refine hK.out _ _ ⟨(unhide HO).cell (i := 0) rfl, (unhide HO).cell (i := 1) rfl, (unhide HO).cell (i := 2) rfl⟩ (fun hHeld => ?_)
      clear hK K
      try simp only [Act.put, List.getElem_toArray, List.getElem_cons_succ, List.getElem_cons_zero, List.setIfInBounds_toArray, List.set_cons_zero, List.set_cons_succ]
      refine wpAnyH_ready (rs := [4, 8]) (by kernel_rfl) (by simp) ?_
      refine AllReadyH.cons rfl (fun K hK => ?_) ?_
      · have hsz4 := (unhide HO).lt
        go_simp
        refine (unhide QC _ (unhide HW)).mono ?_
        rintro e wb ⟨gl, rfl, hgl, hbl, hb⟩
        replace HW := hide (Below.step (unhide HW) hb)
        replace HO := hide ((unhide HO).step hb)
        have HL := hide hbl
        have hgl9 := hbl.lt
        clear hb hbl
        refine hK.out _ _ ⟨(unhide HO).cell (i := 0) rfl, (unhide HO).cell (i := 1) rfl, (unhide HO).cell (i := 2) rfl⟩ (fun hHeld => ?_)
        clear hK K
        try simp only [Act.put, List.getElem_toArray, List.getElem_cons_succ, List.getElem_cons_zero, List.setIfInBounds_toArray, List.set_cons_zero, List.set_cons_succ]
        refine wpAnyH_ready (rs := [8]) (by kernel_rfl) (by simp) ?_
        refine AllReadyH.cons rfl (fun K hK => ?_) AllReadyH.nil
        have hsz8 := (unhide HO).lt
        have A8 := Below.alloc1 wb (.cells (madeCells Z (T.length * 5)) 123)
        have HP := hide (unhide HMK wb)
        replace HW := hide (Below.step (unhide HW) A8)
        replace HO := hide ((unhide HO).step A8)
        replace HL := hide ((unhide HL).step A8)
        go_simp
        refine hK.out _ _ ⟨(unhide HO).cell (i := 0) rfl, (unhide HO).cell (i := 1) rfl, (unhide HO).cell (i := 2) rfl⟩ (fun hHeld => ?_)
        clear hK K
        try simp only [Act.put, List.getElem_toArray, List.getElem_cons_succ, List.getElem_cons_zero, List.setIfInBounds_toArray, List.set_cons_zero, List.set_cons_succ]
        obtain ⟨gp, egp⟩ : ∃ g, g = wb.heap.size := ⟨_, rfl⟩
        rw [← egp] at HP ⊢
        have hgp : w.heap.size < gp := by omega
        have hap : gl ≠ gp := by have := hgl9; omega
        clear egp
        generalize wb.alloc (.cells (madeCells Z (T.length * 5)) 123) = wm at *
        clear A8
        refine wpAnyH_take (i := 11) (v := ?_) rfl (by kernel_rfl) (by kernel_rfl) (by kernel_rfl) (fun _ _ _ h => h) (Or.inl ⟨by rfl, ?_⟩) (by assumption) ?_
        rotate_left
        · intro wy hSw
          obtain ⟨hS0, hS1, hS2⟩ := hSw
          go_simp
          try with_reducible rfl
        try simp only [Act.put, List.getElem_toArray, List.getElem_cons_succ, List.getElem_cons_zero, List.setIfInBounds_toArray, List.set_cons_zero, List.set_cons_succ]
        refine wpAnyH_ready (rs := [12]) (by kernel_rfl) (by simp) ?_
        refine AllReadyH.cons rfl (fun K hK => ?_) AllReadyH.nil
        have A12 := Below.alloc1 wm (.cells #[.bool ok, .slice (some ⟨gl, 0, none⟩) L.length L.length, .slice (some ⟨gp, 0, none⟩) T.length T.length, .int .i64 tk] 114)
        have HB := hide (ownV_alloc wm #[.bool ok, .slice (some ⟨gl, 0, none⟩) L.length L.length, .slice (some ⟨gp, 0, none⟩) T.length T.length, .int .i64 tk] 114)
        have hg1 := (unhide HL).lt
        have hg2 := (unhide HP).lt
        have hszT := (unhide HO).lt
        replace HW := hide (Below.step (unhide HW) A12)
        replace HO := hide ((unhide HO).step A12)
        replace HL := hide ((unhide HL).step A12)
        replace HP := hide ((unhide HP).step A12)
        go_simp
        refine hK.out _ _ ⟨(unhide HO).cell (i := 0) rfl, (unhide HO).cell (i := 1) rfl, (unhide HO).cell (i := 2) rfl⟩ (fun hHeld => ?_)
        clear hK K
        try simp only [Act.put, List.getElem_toArray, List.getElem_cons_succ, List.getElem_cons_zero, List.setIfInBounds_toArray, List.set_cons_zero, List.set_cons_succ]
        refine wpAnyH_take (i := 13) (v := ?_) rfl (by kernel_rfl) (by kernel_rfl) (by kernel_rfl) (fun _ _ _ h => h) (Or.inl ⟨by rfl, ?_⟩) (by assumption) ?_
        rotate_left
        · intro wy hSw
          obtain ⟨hS0, hS1, hS2⟩ := hSw
          go_simp
          try with_reducible rfl
        try simp only [Act.put, List.getElem_toArray, List.getElem_cons_succ, List.getElem_cons_zero, List.setIfInBounds_toArray, List.set_cons_zero, List.set_cons_succ]
        refine wpAnyH_done (by kernel_rfl) ?_ _
        go_wp2_with fail
        go_meet
        exact ⟨wm.heap.size, gl, gp, rfl, HW, HO, ⟨by rw [padT_len (by simp)]; exact unhide HB, (unhide HL).row hs, unhide HP, by omega, by omega, hap⟩, by omega, by omega, by omega⟩
      refine AllReadyH.cons rfl (fun K hK => ?_) AllReadyH.nil
      have hsz8 := (unhide HO).lt
      have A8 := Below.alloc1 wa (.cells (madeCells Z (T.length * 5)) 123)
      have HP := hide (unhide HMK wa)
      replace HW := hide (Below.step (unhide HW) A8)
      replace HO := hide ((unhide HO).step A8)
      go_simp
      refine hK.out _ _ ⟨(unhide HO).cell (i := 0) rfl, (unhide HO).cell (i := 1) rfl, (unhide HO).cell (i := 2) rfl⟩ (fun hHeld => ?_)
      clear hK K
      try simp only [Act.put, List.getElem_toArray, List.getElem_cons_succ, List.getElem_cons_zero, List.setIfInBounds_toArray, List.set_cons_zero, List.set_cons_succ]
      obtain ⟨gp, egp⟩ : ∃ g, g = wa.heap.size := ⟨_, rfl⟩
      rw [← egp] at HP ⊢
      have hgp : w.heap.size < gp := by omega
      skip
      clear egp
      generalize wa.alloc (.cells (madeCells Z (T.length * 5)) 123) = wm at *
      clear A8
      refine wpAnyH_ready (rs := [4]) (by kernel_rfl) (by simp) ?_
      refine AllReadyH.cons rfl (fun K hK => ?_) AllReadyH.nil
      have hsz4 := (unhide HO).lt
      have hgp4 := (unhide HP).lt
      go_simp
      refine (unhide QC _ (unhide HW)).mono ?_
      rintro e wb ⟨gl, rfl, hgl, hbl, hb⟩
      replace HW := hide (Below.step (unhide HW) hb)
      replace HO := hide ((unhide HO).step hb)
      replace HP := hide ((unhide HP).step hb)
      have HL := hide hbl
      have hgl9 := hbl.lt
      clear hb hbl
      refine hK.out _ _ ⟨(unhide HO).cell (i := 0) rfl, (unhide HO).cell (i := 1) rfl, (unhide HO).cell (i := 2) rfl⟩ (fun hHeld => ?_)
      clear hK K
      try simp only [Act.put, List.getElem_toArray, List.getElem_cons_succ, List.getElem_cons_zero, List.setIfInBounds_toArray, List.set_cons_zero, List.set_cons_succ]
      have hap : gl ≠ gp := by omega
      refine wpAnyH_take (i := 11) (v := ?_) rfl (by kernel_rfl) (by kernel_rfl) (by kernel_rfl) (fun _ _ _ h => h) (Or.inl ⟨by rfl, ?_⟩) (by assumption) ?_
      rotate_left
      · intro wy hSw
        obtain ⟨hS0, hS1, hS2⟩ := hSw
        go_simp
        try with_reducible rfl
      try simp only [Act.put, List.getElem_toArray, List.getElem_cons_succ, List.getElem_cons_zero, List.setIfInBounds_toArray, List.set_cons_zero, List.set_cons_succ]
      refine wpAnyH_ready (rs := [12]) (by kernel_rfl) (by simp) ?_
      refine AllReadyH.cons rfl (fun K hK => ?_) AllReadyH.nil
      have A12 := Below.alloc1 wb (.cells #[.bool ok, .slice (some ⟨gl, 0, none⟩) L.length L.length, .slice (some ⟨gp, 0, none⟩) T.length T.length, .int .i64 tk] 114)
      have HB := hide (ownV_alloc wb #[.bool ok, .slice (some ⟨gl, 0, none⟩) L.length L.length, .slice (some ⟨gp, 0, none⟩) T.length T.length, .int .i64 tk] 114)
      have hg1 := (unhide HL).lt
      have hg2 := (unhide HP).lt
      have hszT := (unhide HO).lt
      replace HW := hide (Below.step (unhide HW) A12)
      replace HO := hide ((unhide HO).step A12)
      replace HL := hide ((unhide HL).step A12)
      replace HP := hide ((unhide HP).step A12)
      go_simp
      refine hK.out _ _ ⟨(unhide HO).cell (i := 0) rfl, (unhide HO).cell (i := 1) rfl, (unhide HO).cell (i := 2) rfl⟩ (fun hHeld => ?_)
      clear hK K
      try simp only [Act.put, List.getElem_toArray, List.getElem_cons_succ, List.getElem_cons_zero, List.setIfInBounds_toArray, List.set_cons_zero, List.set_cons_succ]
      refine wpAnyH_take (i := 13) (v := ?_) rfl (by kernel_rfl) (by kernel_rfl) (by kernel_rfl) (fun _ _ _ h => h) (Or.inl ⟨by rfl, ?_⟩) (by assumption) ?_
      rotate_left
      · intro wy hSw
        obtain ⟨hS0, hS1, hS2⟩ := hSw
        go_simp
        try with_reducible rfl
      try simp only [Act.put, List.getElem_toArray, List.getElem_cons_succ, List.getElem_cons_zero, List.setIfInBounds_toArray, List.set_cons_zero, List.set_cons_succ]
      refine wpAnyH_done (by kernel_rfl) ?_ _
      go_wp2_with fail
      go_meet
      exact ⟨wb.heap.size, gl, gp, rfl, HW, HO, ⟨by rw [padT_len (by simp)]; exact unhide HB, (unhide HL).row hs, unhide HP, by omega, by omega, hap⟩, by omega, by omega, by omega⟩
    refine AllReadyH.cons rfl (fun K hK => ?_) AllReadyH.nil
    have hsz8 := (unhide HO).lt
    have A8 := Below.alloc1 VD (.cells (madeCells Z (T.length * 5)) 123)
    have HP := hide (unhide HMK VD)
    replace HW := hide (Below.step (unhide HW) A8)
    replace HO := hide ((unhide HO).step A8)
    go_simp
    refine hK.out _ _ ⟨(unhide HO).cell (i := 0) rfl, (unhide HO).cell (i := 1) rfl, (unhide HO).cell (i := 2) rfl⟩ (fun hHeld => ?_)
    clear hK K
    try simp only [Act.put, List.getElem_toArray, List.getElem_cons_succ, List.getElem_cons_zero, List.setIfInBounds_toArray, List.set_cons_zero, List.set_cons_succ]
    obtain ⟨gp, egp⟩ : ∃ g, g = VD.heap.size := ⟨_, rfl⟩
    rw [← egp] at HP ⊢
    have hgp : w.heap.size < gp := by omega
    skip
    clear egp
    generalize VD.alloc (.cells (madeCells Z (T.length * 5)) 123) = wm at *
    clear A8
    refine wpAnyH_ready (rs := [1]) (by kernel_rfl) (by simp) ?_
    refine AllReadyH.cons rfl (fun K hK => ?_) AllReadyH.nil
    go_simp
    refine (unhide QH _ (unhide HW)).mono ?_
    rintro e wa ⟨rfl, hb⟩
    replace HW := hide (Below.step (unhide HW) hb)
    replace HO := hide ((unhide HO).step hb)
    replace HP := hide ((unhide HP).step hb)
    clear hb
    refine hK.out _ _ ⟨(unhide HO).cell (i := 0) rfl, (unhide HO).cell (i := 1) rfl, (unhide HO).cell (i := 2) rfl⟩ (fun hHeld => ?_)
    clear hK K
    try simp only [Act.put, List.getElem_toArray, List.getElem_cons_succ, List.getElem_cons_zero, List.setIfInBounds_toArray, List.set_cons_zero, List.set_cons_succ]
    refine wpAnyH_ready (rs := [4]) (by kernel_rfl) (by simp) ?_
    refine AllReadyH.cons rfl (fun K hK => ?_) AllReadyH.nil
    have hsz4 := (unhide HO).lt
    have hgp4 := (unhide HP).lt
    go_simp
    refine (unhide QC _ (unhide HW)).mono ?_
    rintro e wb ⟨gl, rfl, hgl, hbl, hb⟩
    replace HW := hide (Below.step (unhide HW) hb)
    replace HO := hide ((unhide HO).step hb)
    replace HP := hide ((unhide HP).step hb)
    have HL := hide hbl
    have hgl9 := hbl.lt
    clear hb hbl
    refine hK.out _ _ ⟨(unhide HO).cell (i := 0) rfl, (unhide HO).cell (i := 1) rfl, (unhide HO).cell (i := 2) rfl⟩ (fun hHeld => ?_)
    clear hK K
    try simp only [Act.put, List.getElem_toArray, List.getElem_cons_succ, List.getElem_cons_zero, List.setIfInBounds_toArray, List.set_cons_zero, List.set_cons_succ]
    have hap : gl ≠ gp := by have := (unhide HP).lt; omega
    refine wpAnyH_take (i := 11) (v := ?_) rfl (by kernel_rfl) (by kernel_rfl) (by kernel_rfl) (fun _ _ _ h => h) (Or.inl ⟨by rfl, ?_⟩) (by assumption) ?_
    rotate_left
    · intro wy hSw
      obtain ⟨hS0, hS1, hS2⟩ := hSw
      go_simp
      try with_reducible rfl
    try simp only [Act.put, List.getElem_toArray, List.getElem_cons_succ, List.getElem_cons_zero, List.setIfInBounds_toArray, List.set_cons_zero, List.set_cons_succ]
    refine wpAnyH_ready (rs := [12]) (by kernel_rfl) (by simp) ?_
    refine AllReadyH.cons rfl (fun K hK => ?_) AllReadyH.nil
    have A12 := Below.alloc1 wb (.cells #[.bool ok, .slice (some ⟨gl, 0, none⟩) L.length L.length, .slice (some ⟨gp, 0, none⟩) T.length T.length, .int .i64 tk] 114)
    have HB := hide (ownV_alloc wb #[.bool ok, .slice (some ⟨gl, 0, none⟩) L.length L.length, .slice (some ⟨gp, 0, none⟩) T.length T.length, .int .i64 tk] 114)
    have hg1 := (unhide HL).lt
    have hg2 := (unhide HP).lt
    have hszT := (unhide HO).lt
    replace HW := hide (Below.step (unhide HW) A12)
    replace HO := hide ((unhide HO).step A12)
    replace HL := hide ((unhide HL).step A12)
    replace HP := hide ((unhide HP).step A12)
    go_simp
    refine hK.out _ _ ⟨(unhide HO).cell (i := 0) rfl, (unhide HO).cell (i := 1) rfl, (unhide HO).cell (i := 2) rfl⟩ (fun hHeld => ?_)
    clear hK K
    try simp only [Act.put, List.getElem_toArray, List.getElem_cons_succ, List.getElem_cons_zero, List.setIfInBounds_toArray, List.set_cons_zero, List.set_cons_succ]
    refine wpAnyH_take (i := 13) (v := ?_) rfl (by kernel_rfl) (by kernel_rfl) (by kernel_rfl) (fun _ _ _ h => h) (Or.inl ⟨by rfl, ?_⟩) (by assumption) ?_
    rotate_left
    · intro wy hSw
      obtain ⟨hS0, hS1, hS2⟩ := hSw
      go_simp
      try with_reducible rfl
    try simp only [Act.put, List.getElem_toArray, List.getElem_cons_succ, List.getElem_cons_zero, List.setIfInBounds_toArray, List.set_cons_zero, List.set_cons_succ]
    refine wpAnyH_done (by kernel_rfl) ?_ _
    go_wp2_with fail
    go_meet
    exact ⟨wb.heap.size, gl, gp, rfl, HW, HO, ⟨by rw [padT_len (by simp)]; exact unhide HB, (unhide HL).row hs, unhide HP, by omega, by omega, hap⟩, by omega, by omega, by omega⟩
  case rest =>
  obtain ⟨go, gl, gp, rfl, HW1, HO1, hof, hgo, hgl, hgp⟩ := hcut
  have HOF := hide hof
  clear hof HW HO QH QC hmk HMK a0 a1 a2
  have q1 := (unhide HO1).cell (i := 1) rfl
  have HOF0 : Hid (Of wc go gl L.length gp ok L (padT T.length (T.take 0)) tk) := HOF
  go_wp2
  clear q1
  go_loopg [22] T.length (fun g iv wr => ∃ k : Nat, k ≤ T.length ∧ g = T.length - k ∧ iv = .int .i64 k ∧ Hid (Below w.heap.size w wr) ∧ Hid (Of wr go gl L.length gp ok L (padT T.length (T.take k)) tk))
  case atStart => exact ⟨0, Nat.zero_le _, rfl, rfl, HW1, HOF0⟩
  case round =>
    clear HW1 HO1 HOF HOF0
    obtain ⟨k, hk, rfl, rfl, HW, HOF⟩ := hrel
    have hlen : (padT T.length (T.take k)).length = T.length := padT_len (by rw [List.length_take]; omega)
    by_cases hkn : k < T.length
    · obtain ⟨bb, o, mo, bn, bd, rfl, hc0, hc1, hc2, EX⟩ := recTrAt (unhide HT) hkn
      have hki : (k : Int) < T.length := by omega
      have g0 := wcell3 hc0 (unhide HW)
      have g1 := wcell3 hc1 (unhide HW)
      have g2 := wcell3 hc2 (unhide HW)
      have AL := Below.alloc1 wr (.cells #[.int .i64 mo, .int .i64 bn, .int .i64 bd] 37)
      have HX := hide (ownV_alloc wr #[.int .i64 mo, .int .i64 bn, .int .i64 bd] 37)
      have hlt := (unhide HOF).lt
      have HWA := hide (Below.step (unhide HW) AL)
      have HOA := hide ((unhide HOF).step AL)
      have ESET : Hid ((padT T.length (T.take k)).set k (mo, bn, bd) = padT T.length (T.take (k + 1))) := by
        have h9 := padT_set (n := T.length) (T := T.take k) (by rw [List.length_take]; omega) (mo, bn, bd)
        rw [show (T.take k).length = k by rw [List.length_take]; omega, ← unhide EX, ← take_succ_getD T default hkn] at h9
        show _ = _
        rw [← unhide EX]
        exact h9
      clear hc0 hc1 hc2 AL HW HOF EX
      go_upto_region 5 with (fail)
      obtain ⟨V1, eV⟩ : ∃ z, z = wr.alloc (.cells #[.int .i64 mo, .int .i64 bn, .int .i64 bd] 37) := ⟨_, rfl⟩
      rw [← eV] at HWA HOA HX ⊢
      clear eV g0 g1 g2
      obtain ⟨gx, egx⟩ : ∃ g, g = wr.heap.size := ⟨_, rfl⟩
      rw [← egx] at HX ⊢
      have hne1 : ¬ gx = gp := by omega
      have hne2 : ¬ gp = gx := by omega
      have hne3 : ¬ go = gp := (unhide HOA).ap.2.1
      have hne4 : ¬ gp = go := fun e => hne3 e.symm
      clear egx hlt
      have x0 := (unhide HX).cell (i := 0) rfl
      have x1 := (unhide HX).cell (i := 1) rfl
      have x2 := (unhide HX).cell (i := 2) rfl
      have o2 := (unhide HOA).box.cell (i := 2) rfl
      rw [hlen] at o2
      obtain ⟨pt, ept⟩ : ∃ p, p = (padT T.length (T.take k)).getD k default := ⟨_, rfl⟩
      obtain ⟨pm, pb, pd⟩ := pt
      obtain ⟨p0, p1, p2, p3, p4⟩ := purAt (unhide HOA).pur (by rw [hlen]; exact hkn) ept.symm
      have pf := (unhide HOA).pur.frozen
      have p3' : V1.cell? ⟨gp, k * 5 + 2 + 1, none⟩ = some (.int .i64 pb) := p3
      have p4' : V1.cell? ⟨gp, k * 5 + 2 + 2, none⟩ = some (.int .i64 pd) := p4
      have HOB := hide fun n => ((unhide HOA).step (below_drewN (Below.refl _ _) n)).putP (kept3 (V1.drewN n) gp (k * 5 + 2) (k * 5 + 2 + 1) (k * 5 + 2 + 2) _ _ _) (pur_fill ((unhide HOA).step (below_drewN (Below.refl _ _) n)).pur (by rw [hlen]; exact hkn) mo bn bd) (by rw [List.length_set])
      rw [unhide ESET] at HOB
      have HWB := hide fun n => (((below_drewN (unhide HWA) n).setCell (p := ⟨gp, k * 5 + 2, none⟩) (by show w.heap.size ≤ gp; omega) (.int .i64 mo)).setCell (p := ⟨gp, k * 5 + 2 + 1, none⟩) (by show w.heap.size ≤ gp; omega) (.int .i64 bn)).setCell (p := ⟨gp, k * 5 + 2 + 2, none⟩) (by show w.heap.size ≤ gp; omega) (.int .i64 bd)
      clear ept p3 p4 ESET
      go_region
      all_goals
        go_wp2
        go_roundg (T.length - (k + 1))
        case measure => omega
        case rel => exact ⟨k + 1, by omega, rfl, by go_num, hide (unhide HWB _), hide (unhide HOB _)⟩
    · have ek : k = T.length := by omega
      rw [ek, List.take_length, padT_full] at HOF
      clear ek
      go_wp2
      go_ret
      exact ⟨go, gl, gp, rfl, unhide HOF, by omega, by omega, by omega, unhide HW⟩

end Go.Proofs.Ytojlkdmlelgcbaa
