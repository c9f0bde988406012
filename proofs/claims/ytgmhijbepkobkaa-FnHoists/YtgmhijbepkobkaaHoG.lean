/- The specification's RunSignals. Written by wip/mk20g.py. -/
import Derived.Test.YtgmhijbepkobkaaHoB9
import Derived.Test.YtgmhijbepkobkaaHoE
import Derived.Test.YtgmhijbepkobkaaRowK
import Derived.Test.YtgmhijbepkobkaaRecH
import Derived.Test.YtgmhijbepkobkaaBoA
import Derived.Deep.RegionHeld3
import Derived.Deep.DeepCutAuto
import Derived.Deep.Cut
namespace Go.Proofs.Ytgmhijbepkobkaa
open Go.RowKit

/-- What RunSignals tells. -/
def rsH (h : Ho) (L : List SignalT) : Ho := if L.length ≤ 200 then stS h L else h
def rsC (h : Ho) (L : List SignalT) : List Bool := if L.length ≤ 200 then cdS h L else []
theorem rsC_len (h : Ho) (L : List SignalT) : (rsC h L).length ≤ 200 := by
  unfold rsC
  split
  · rw [cdS_len]; omega
  · simp
theorem stS_snoc (s : SignalT) : ∀ (A : List SignalT) (h : Ho), stS h (A ++ [s]) = (sigH (stS h A) s.1 s.2).1 ∧ cdS h (A ++ [s]) = cdS h A ++ [(sigH (stS h A) s.1 s.2).2]
  | [], _ => ⟨rfl, rfl⟩
  | a :: A, h => ⟨(stS_snoc s A _).1, by show (sigH h a.1 a.2).2 :: cdS _ (A ++ [s]) = _; rw [(stS_snoc s A _).2]; rfl⟩
theorem take_snoc (L : List SignalT) {k : Nat} (h : k < L.length) : L.take (k + 1) = L.take k ++ [L.getD k default] := by
  rw [List.take_add_one]; simp [List.getD, List.getElem?_eq_getElem h]
def eB (x : Bool) (_ : Nat) : Value := .bool x
theorem recB (L : List Bool) : recCells 1 eB L = L.map Value.bool := by
  apply List.ext_getElem?
  intro i
  by_cases h : i < L.length
  · simp [recCells, eB, h, List.getD]
  · simp [recCells, h]
theorem Try.infoB : (Try.prog.info? 4).map (fun i => (i.zero, i.size, i.bytes)) = some (some (.bool false), 1, 1) := by kernel_rfl
theorem tyB : RecTy 46 4 1 eB := recTy_mk Try.underlying46 Try.infoB (by rfl) (by omega) (by omega) (fun _ _ _ => rfl)
/-- One signal in memory. -/
def SgA (w : World) (b o : Nat) (x0 x1 : Int) : Prop := w.cell? ⟨b, o, none⟩ = some (.int .i64 x0) ∧ w.cell? ⟨b, o + 1, none⟩ = some (.int .i64 x1)
theorem SgA.step {w w' : World} {b o : Nat} {x0 x1 : Int} (h : SgA w b o x0 x1) (hb : Below w.heap.size w w') : SgA w' b o x0 x1 := ⟨(hb.cell (lt_of_cell h.1)).trans h.1, (hb.cell (lt_of_cell h.2)).trans h.2⟩
theorem SgA.kept {T : Nat → Prop} {w w' : World} {b o : Nat} {x0 x1 : Int} (h : SgA w b o x0 x1) (hk : Kept T w w') (hT : ¬ T b) : SgA w' b o x0 x1 :=
  ⟨(World.cell?_of_block (hk.block b (lt_of_cell h.1) hT)).trans h.1, (World.cell?_of_block (hk.block b (lt_of_cell h.2) hT)).trans h.2⟩
/-- A row of the call's own as its answer. -/
theorem row_ownBo {B B' : Nat} {w : World} {ao : Option Addr} {m cap : Nat} {L : List Bool} (h : RowB 4 1 eB B w ao m cap L) (hB : B' ≤ B) : OwnBo B' w (.slice ao m cap) L := by
  have hl := h.len (by omega)
  subst hl
  rcases h.parts (by omega) with ⟨rfl, h1, rfl, rfl⟩ | ⟨g, rfl, h1, h2, h3, h4, h5⟩
  · exact ⟨none, 0, rfl, Nat.le_refl _, Nat.zero_le _, fun e => absurd rfl e⟩
  · exact ⟨_, cap, rfl, h3, h4, fun _ => ⟨g, rfl, by omega, by rw [recB] at h5; exact h5⟩⟩
/-- What the specification's RunSignals answers. -/
def SRA (w : World) (h : Ho) (L : List SignalT) (e : Ending) (w' : World) : Prop := ∃ ao n cap, e = .returned (.tuple #[(rsH h L).v, .slice ao n cap]) ∧ OwnBo w.heap.size w' (.slice ao n cap) (rsC h L) ∧ Below w.heap.size w w'

set_option maxRecDepth 100000 in
set_option maxHeartbeats 16000000 in
theorem specRunSignals_any (h : Ho) (v : Value) (L : List SignalT) (w : World) (hL : RSignal w v L) :
    Calls Try.prog 40 #[h.v, v] w (SRA w h L) := by
  have HVL := hide hL
  obtain ⟨ao, cap, rfl, hl, hm, -⟩ := hL
  unfold maxLen at hm
  unfold Ho.v vHoist
  go_enter Try.func40, Try.ntmps40
  go_upto_region 1 with (fail)
  obtain ⟨g0, eg0⟩ : ∃ z, z = w.heap.size := ⟨_, rfl⟩
  obtain ⟨W, eW⟩ : ∃ z, z = (w.alloc (.cells #[.int .i64 h.q, .int .i64 h.ld, .int .i64 h.he, .int .i64 h.lw, .int .i64 h.hg, .int .i64 h.lm, .int .i64 h.rs] 37)).alloc (.cells #[.int .i64 0, .int .i64 0, .int .i64 0, .int .i64 0, .int .i64 0, .int .i64 0, .int .i64 0] 37) := ⟨_, rfl⟩
  have HW : Hid (Below w.heap.size w W) := by rw [eW]; exact Below.step (Below.alloc1 _ _) (Below.alloc1 _ _)
  have HB : Hid (OwnV W g0 [.int .i64 h.q, .int .i64 h.ld, .int .i64 h.he, .int .i64 h.lw, .int .i64 h.hg, .int .i64 h.lm, .int .i64 h.rs]) := by rw [eW, eg0]; exact (ownV_alloc _ _ _).step (Below.alloc1 _ _)
  have HZ : Hid (OwnV W (g0 + 1) [.int .i64 0, .int .i64 0, .int .i64 0, .int .i64 0, .int .i64 0, .int .i64 0, .int .i64 0]) := by
    have := ownV_alloc (w.alloc (.cells #[.int .i64 h.q, .int .i64 h.ld, .int .i64 h.he, .int .i64 h.lw, .int .i64 h.hg, .int .i64 h.lm, .int .i64 h.rs] 37)) #[.int .i64 0, .int .i64 0, .int .i64 0, .int .i64 0, .int .i64 0, .int .i64 0, .int .i64 0] 37
    simp only [World.size_alloc] at this
    rw [eW, eg0]
    exact this
  rw [← eW, ← eg0]
  have hg0 : w.heap.size ≤ g0 := by omega
  clear eW eg0
  have hzl := (unhide HZ).lt
  have HR := hide (rowB_new 4 1 eB W (g0 + 1 + 1) hzl)
  obtain ⟨gc, egc⟩ : ∃ z, z = W.heap.size := ⟨_, rfl⟩
  go_upto_region 3 with (fail)
  obtain ⟨W3, eW⟩ : ∃ z, z = W.alloc (.cells #[] 4) := ⟨_, rfl⟩
  have hb : Below W.heap.size W W3 := by rw [eW]; exact Below.alloc1 _ _
  rw [← eW] at HR ⊢
  rw [← egc] at HR ⊢
  replace HW := hide (Below.step (unhide HW) hb)
  replace HB := hide ((unhide HB).step hb)
  replace HZ := hide ((unhide HZ).step hb)
  clear hb eW egc hzl
  by_cases h200 : L.length ≤ 200
  case neg =>
    have HE1 : Hid (rsH h L = h) := by show _ = _; unfold rsH; rw [if_neg h200]
    have HE2 : Hid (rsC h L = []) := by show _ = _; unfold rsC; rw [if_neg h200]
    have n200 : ¬ ((L.length : Int) ≤ 200) := by omega
    have d200 : decide ((L.length : Int) ≤ 200) = false := decide_eq_false n200
    have nL : ((0 : Int) < (L.length : Int)) := by omega
    have dL : decide ((0 : Int) < (L.length : Int)) = true := decide_eq_true nL
    go_loopg [6, 7] 0 (fun gh tv iv wr => W3 = wr ∧ gh = 0 ∧ tv = .slice (some ⟨gc, 0, none⟩) 0 0 ∧ iv = .int .i64 0)
    case atStart => exact ⟨rfl, rfl, rfl, rfl⟩
    case round =>
      obtain ⟨rfl, rfl, rfl, rfl⟩ := hrel
      have b0 := (unhide HB).cell (i := 0) rfl
      have b1 := (unhide HB).cell (i := 1) rfl
      have b2 := (unhide HB).cell (i := 2) rfl
      have b3 := (unhide HB).cell (i := 3) rfl
      have b4 := (unhide HB).cell (i := 4) rfl
      have b5 := (unhide HB).cell (i := 5) rfl
      have b6 := (unhide HB).cell (i := 6) rfl
      have z0 := (unhide HZ).cell (i := 0) rfl
      have z1 := (unhide HZ).cell (i := 1) rfl
      have z2 := (unhide HZ).cell (i := 2) rfl
      have z3 := (unhide HZ).cell (i := 3) rfl
      have z4 := (unhide HZ).cell (i := 4) rfl
      have z5 := (unhide HZ).cell (i := 5) rfl
      have z6 := (unhide HZ).cell (i := 6) rfl
      have zf0 := (unhide HZ).frozen 0
      have zf1 := (unhide HZ).frozen 1
      have zf2 := (unhide HZ).frozen 2
      have zf3 := (unhide HZ).frozen 3
      have zf4 := (unhide HZ).frozen 4
      have zf5 := (unhide HZ).frozen 5
      have zf6 := (unhide HZ).frozen 6
      have hWz := (unhide HW).size
      go_wp2
      refine bodyPost_ret (v := .tuple #[vHoist h.q h.ld h.he h.lw h.hg h.lm h.rs, .slice (some ⟨gc, 0, none⟩) 0 0]) (by simp [results, Try.results40, go_sem, vHoist, z0, z1, z2, z3, z4, z5, z6]) rfl ⟨some ⟨gc, 0, none⟩, 0, 0, ?_, ?_, ?_⟩
      · rw [unhide HE1]; rfl
      · rw [unhide HE2]
        refine row_ownBo (B := g0 + 1 + 1) ((unhide HR).kept (P := fun b => b = g0 + 1) ((((((((Kept.refl (fun b => b = g0 + 1) _).setCell (p := ⟨g0 + 1, 0, none⟩) rfl (.int .i64 h.q)).setCell (p := ⟨g0 + 1, 1, none⟩) rfl (.int .i64 h.ld)).setCell (p := ⟨g0 + 1, 2, none⟩) rfl (.int .i64 h.he)).setCell (p := ⟨g0 + 1, 3, none⟩) rfl (.int .i64 h.lw)).setCell (p := ⟨g0 + 1, 4, none⟩) rfl (.int .i64 h.hg)).setCell (p := ⟨g0 + 1, 5, none⟩) rfl (.int .i64 h.lm)).setCell (p := ⟨g0 + 1, 6, none⟩) rfl (.int .i64 h.rs)) (fun g _ hB _ e => by omega)) (by omega)
      · repeat (refine Below.setCell ?_ (by dsimp only; omega) _)
        exact unhide HW
  have d200 : decide ((L.length : Int) ≤ 200) = true := decide_eq_true (by omega)
  have n200 : ((L.length : Int) ≤ 200) := by omega
  go_loopg [6, 7] L.length (fun gh tv iv wr => ∃ (k co cc : Nat) (y : Ho), k ≤ L.length ∧ gh = L.length - k ∧ tv = .slice (some ⟨co, 0, none⟩) k cc ∧ iv = .int .i64 k ∧ Hid (y = stS h (L.take k)) ∧ Hid (Below w.heap.size w wr) ∧ Hid (OwnV wr g0 [.int .i64 y.q, .int .i64 y.ld, .int .i64 y.he, .int .i64 y.lw, .int .i64 y.hg, .int .i64 y.lm, .int .i64 y.rs]) ∧ Hid (OwnV wr (g0 + 1) [.int .i64 0, .int .i64 0, .int .i64 0, .int .i64 0, .int .i64 0, .int .i64 0, .int .i64 0]) ∧ Hid (RowB 4 1 eB (g0 + 1 + 1) wr (some ⟨co, 0, none⟩) k cc (cdS h (L.take k))))
  case atStart => exact ⟨0, gc, 0, h, Nat.zero_le _, rfl, rfl, rfl, hide (by simp [stS]), HW, HB, HZ, by simpa [cdS] using HR⟩
  case round =>
    clear HW HB HZ HR
    obtain ⟨k, co, cc, y, hk, rfl, rfl, rfl, HY, HW, HB, HZ, HR⟩ := hrel
    by_cases hkn : k < L.length
    · have hki : (k : Int) < (L.length : Int) := by omega
      have dki : decide ((k : Int) < (L.length : Int)) = true := decide_eq_true hki
      obtain ⟨bo, of, x0, x1, eo, hbw, hsg, EX⟩ : ∃ bo of x0 x1, ao = some ⟨bo, of, none⟩ ∧ bo < w.heap.size ∧ SgA w bo (of + k * 2) x0 x1 ∧ Hid (L.getD k default = (x0, x1)) := by
        obtain ⟨_, _, e2, -, -, hrec⟩ := unhide HVL
        simp only [Value.slice.injEq] at e2
        obtain ⟨rfl, -, -⟩ := e2
        obtain ⟨b, o, x0, x1, e, q0, q1, ex⟩ := recSignalAt hrec hkn
        exact ⟨b, o, x0, x1, e, lt_of_cell q0, ⟨q0, q1⟩, ex⟩
      subst eo
      have HSg : Hid (SgA wr bo (of + k * 2) x0 x1) := by
        have hb := unhide HW
        exact ⟨(hb.cell hbw).trans hsg.1, (hb.cell hbw).trans hsg.2⟩
      have HC := hide fun W => specDoSignal_any y x0 x1 W
      have HS1 : Hid (stS h (L.take (k + 1)) = (sigH y x0 x1).1) := by
        show _ = _
        rw [take_snoc L hkn, (stS_snoc _ _ _).1, unhide EX, unhide HY]
      have HS2 : Hid (cdS h (L.take (k + 1)) = cdS h (L.take k) ++ [(sigH y x0 x1).2]) := by
        show _ = _
        rw [take_snoc L hkn, (stS_snoc _ _ _).2, unhide EX, unhide HY]
      obtain ⟨⟨z, bb⟩, ez⟩ : ∃ r, r = sigH y x0 x1 := ⟨_, rfl⟩
      rw [← ez] at HC HS1 HS2
      dsimp only at HC HS1 HS2
      unfold Ho.v vHoist vSignal at HC
      have hcow : co < wr.heap.size := ((unhide HR).mono (Nat.zero_le _)).ownG (by omega) |>.2.2.2.1
      have hg1w := (unhide HZ).lt
      have hww := (unhide HW).size
      clear ez hsg
      go_upto_region 5 with (fail)
      go_cut [8, 9] (fun s8 s9 wx => ∃ (gn : Nat), s8 = .pointer (some ⟨gn, 0, none⟩) ∧ s9 = .bool bb ∧ co < gn ∧ g0 + 1 < gn ∧ Hid (Below w.heap.size w wx) ∧ Hid (OwnV wx g0 [.int .i64 y.q, .int .i64 y.ld, .int .i64 y.he, .int .i64 y.lw, .int .i64 y.hg, .int .i64 y.lm, .int .i64 y.rs]) ∧ Hid (OwnV wx (g0 + 1) [.int .i64 0, .int .i64 0, .int .i64 0, .int .i64 0, .int .i64 0, .int .i64 0, .int .i64 0]) ∧ Hid (RowB 4 1 eB (g0 + 1 + 1) wx (some ⟨co, 0, none⟩) k cc (cdS h (L.take k))) ∧ Hid (OwnV wx gn [.int .i64 z.q, .int .i64 z.ld, .int .i64 z.he, .int .i64 z.lw, .int .i64 z.hg, .int .i64 z.lm, .int .i64 z.rs]))
      case first =>
        obtain ⟨wd, ewd⟩ : ∃ z, z = wr.drew := ⟨_, rfl⟩
        have hb : Below wr.heap.size wr wd := by rw [ewd]; exact (Below.refl _ _).drew
        replace HW := hide (Below.step (unhide HW) hb)
        replace HB := hide (OwnV.step (unhide HB) hb)
        replace HZ := hide (OwnV.step (unhide HZ) hb)
        replace HR := hide ((unhide HR).below hb)
        replace HSg := hide ((unhide HSg).step hb)
        have hszd := hb.size
        clear hb
        refine wp_region_held_drew (S := fun w' => w'.cell? ⟨g0, 0, none⟩ = some (.int .i64 y.q) ∧ w'.cell? ⟨g0, 1, none⟩ = some (.int .i64 y.ld) ∧ w'.cell? ⟨g0, 2, none⟩ = some (.int .i64 y.he) ∧ w'.cell? ⟨g0, 3, none⟩ = some (.int .i64 y.lw) ∧ w'.cell? ⟨g0, 4, none⟩ = some (.int .i64 y.hg) ∧ w'.cell? ⟨g0, 5, none⟩ = some (.int .i64 y.lm) ∧ w'.cell? ⟨g0, 6, none⟩ = some (.int .i64 y.rs) ∧ w'.cell? ⟨bo, of + k * 2, none⟩ = some (.int .i64 x0) ∧ w'.cell? ⟨bo, of + k * 2 + 1, none⟩ = some (.int .i64 x1)) (by kernel_rfl) ⟨by rw [← ewd]; exact (unhide HB).cell (i := 0) rfl, by rw [← ewd]; exact (unhide HB).cell (i := 1) rfl, by rw [← ewd]; exact (unhide HB).cell (i := 2) rfl, by rw [← ewd]; exact (unhide HB).cell (i := 3) rfl, by rw [← ewd]; exact (unhide HB).cell (i := 4) rfl, by rw [← ewd]; exact (unhide HB).cell (i := 5) rfl, by rw [← ewd]; exact (unhide HB).cell (i := 6) rfl, by rw [← ewd]; exact (unhide HSg).1, by rw [← ewd]; exact (unhide HSg).2⟩ (fun hHeld => ?_)
        rw [← ewd] at hHeld ⊢
        clear ewd
        refine wpAnyH_take (i := 0) (v := ?_) rfl (by kernel_rfl) (by kernel_rfl) (by kernel_rfl) (fun _ _ _ h => h) (Or.inl ⟨by rfl, ?_⟩) (by assumption) ?_
        rotate_left
        · intro wy hSw
          obtain ⟨hS0, hS1, hS2, hS3, hS4, hS5, hS6, hS7, hS8⟩ := hSw
          go_simp
          try with_reducible rfl
        try simp only [Act.put, List.getElem_toArray, List.getElem_cons_zero, List.setIfInBounds_toArray, List.set_cons_zero, List.set_cons_succ]
        refine wpAnyH_take (i := 1) (v := ?_) rfl (by kernel_rfl) (by kernel_rfl) (by kernel_rfl) (fun _ _ _ h => h) (Or.inl ⟨by rfl, ?_⟩) (by assumption) ?_
        rotate_left
        · intro wy hSw
          obtain ⟨hS0, hS1, hS2, hS3, hS4, hS5, hS6, hS7, hS8⟩ := hSw
          go_simp
          try with_reducible rfl
        try simp only [Act.put, List.getElem_toArray, List.getElem_cons_succ, List.getElem_cons_zero, List.setIfInBounds_toArray, List.set_cons_zero, List.set_cons_succ]
        refine wpAnyH_take (i := 2) (v := ?_) rfl (by kernel_rfl) (by kernel_rfl) (by kernel_rfl) (fun _ _ _ h => h) (Or.inl ⟨by rfl, ?_⟩) (by assumption) ?_
        rotate_left
        · intro wy hSw
          obtain ⟨hS0, hS1, hS2, hS3, hS4, hS5, hS6, hS7, hS8⟩ := hSw
          go_simp
          try with_reducible rfl
        try simp only [Act.put, List.getElem_toArray, List.getElem_cons_succ, List.getElem_cons_zero, List.setIfInBounds_toArray, List.set_cons_zero, List.set_cons_succ]
        refine wpAnyH_take (i := 3) (v := ?_) rfl (by kernel_rfl) (by kernel_rfl) (by kernel_rfl) (fun _ _ _ h => h) (Or.inl ⟨by rfl, ?_⟩) (by assumption) ?_
        rotate_left
        · intro wy hSw
          obtain ⟨hS0, hS1, hS2, hS3, hS4, hS5, hS6, hS7, hS8⟩ := hSw
          go_simp
          try with_reducible rfl
        try simp only [Act.put, List.getElem_toArray, List.getElem_cons_succ, List.getElem_cons_zero, List.setIfInBounds_toArray, List.set_cons_zero, List.set_cons_succ]
        refine wpAnyH_take (i := 4) (v := ?_) rfl (by kernel_rfl) (by kernel_rfl) (by kernel_rfl) (fun _ _ _ h => h) (Or.inl ⟨by rfl, ?_⟩) (by assumption) ?_
        rotate_left
        · intro wy hSw
          obtain ⟨hS0, hS1, hS2, hS3, hS4, hS5, hS6, hS7, hS8⟩ := hSw
          go_simp
          try with_reducible rfl
        try simp only [Act.put, List.getElem_toArray, List.getElem_cons_succ, List.getElem_cons_zero, List.setIfInBounds_toArray, List.set_cons_zero, List.set_cons_succ]
        refine wpAnyH_ready (rs := [5, 9]) (by kernel_rfl) (by simp) ?_
        refine AllReadyH.cons rfl (fun K hK => ?_) (AllReadyH.cons rfl (fun K hK => ?_) AllReadyH.nil)
        · go_simp
          have HCQ := hide (unhide HC wd)
          refine (unhide HCQ).mono ?_
          rintro e wc0 ⟨rfl, hb⟩
          replace HW := hide (Below.step (unhide HW) hb)
          replace HB := hide (OwnV.step (unhide HB) hb)
          replace HZ := hide (OwnV.step (unhide HZ) hb)
          replace HR := hide ((unhide HR).below hb)
          replace HSg := hide ((unhide HSg).step hb)
          have hswc0 := hb.size
          clear hb HCQ
          refine hK.out _ _ ⟨(unhide HB).cell (i := 0) rfl, (unhide HB).cell (i := 1) rfl, (unhide HB).cell (i := 2) rfl, (unhide HB).cell (i := 3) rfl, (unhide HB).cell (i := 4) rfl, (unhide HB).cell (i := 5) rfl, (unhide HB).cell (i := 6) rfl, (unhide HSg).1, (unhide HSg).2⟩ (fun hHeld => ?_)
          clear hK K
          try simp only [Act.put, List.setIfInBounds_toArray, List.set_cons_zero, List.set_cons_succ]
          refine wpAnyH_take (i := 6) (v := ?_) rfl (by kernel_rfl) (by kernel_rfl) (by kernel_rfl) (fun _ _ _ h => h) (Or.inl ⟨by rfl, ?_⟩) (by assumption) ?_
          rotate_left
          · intro wy hSw
            obtain ⟨hS0, hS1, hS2, hS3, hS4, hS5, hS6, hS7, hS8⟩ := hSw
            go_simp
            try with_reducible rfl
          try simp only [Act.put, List.getElem_toArray, List.getElem_cons_succ, List.getElem_cons_zero, List.setIfInBounds_toArray, List.set_cons_zero, List.set_cons_succ]
          refine wpAnyH_take (i := 7) (v := ?_) rfl (by kernel_rfl) (by kernel_rfl) (by kernel_rfl) (fun _ _ _ h => h) (Or.inl ⟨by rfl, ?_⟩) (by assumption) ?_
          rotate_left
          · intro wy hSw
            obtain ⟨hS0, hS1, hS2, hS3, hS4, hS5, hS6, hS7, hS8⟩ := hSw
            go_simp
            try with_reducible rfl
          try simp only [Act.put, List.getElem_toArray, List.getElem_cons_succ, List.getElem_cons_zero, List.setIfInBounds_toArray, List.set_cons_zero, List.set_cons_succ]
          refine wpAnyH_take (i := 8) (v := ?_) rfl (by kernel_rfl) (by kernel_rfl) (by kernel_rfl) (fun _ _ _ h => h) (Or.inl ⟨by rfl, ?_⟩) (by assumption) ?_
          rotate_left
          · intro wy hSw
            obtain ⟨hS0, hS1, hS2, hS3, hS4, hS5, hS6, hS7, hS8⟩ := hSw
            go_simp
            try with_reducible rfl
          try simp only [Act.put, List.getElem_toArray, List.getElem_cons_succ, List.getElem_cons_zero, List.setIfInBounds_toArray, List.set_cons_zero, List.set_cons_succ]
          refine wpAnyH_ready (rs := [9]) (by kernel_rfl) (by simp) ?_
          refine AllReadyH.cons rfl (fun K hK => ?_) AllReadyH.nil
          go_simp
          obtain ⟨gn, egn⟩ : ∃ z, z = wc0.heap.size := ⟨_, rfl⟩
          obtain ⟨wb1, ewb1⟩ : ∃ z, z = wc0.alloc (.cells #[.int .i64 0, .int .i64 0, .int .i64 0, .int .i64 0, .int .i64 0, .int .i64 0, .int .i64 0] 37) := ⟨_, rfl⟩
          have hb : Below wc0.heap.size wc0 wb1 := by rw [ewb1]; exact Below.alloc1 _ _
          have HN : Hid (OwnV wb1 gn [.int .i64 0, .int .i64 0, .int .i64 0, .int .i64 0, .int .i64 0, .int .i64 0, .int .i64 0]) := by rw [ewb1, egn]; exact ownV_alloc _ _ _
          rw [← ewb1, ← egn]
          replace HW := hide (Below.step (unhide HW) hb)
          replace HB := hide (OwnV.step (unhide HB) hb)
          replace HZ := hide (OwnV.step (unhide HZ) hb)
          replace HR := hide ((unhide HR).below hb)
          replace HSg := hide ((unhide HSg).step hb)
          have hcn : co < gn := by omega
          have hgn : g0 + 1 < gn := by omega
          have hgw : w.heap.size ≤ gn := by omega
          have hbn : bo < gn := by omega
          clear hb ewb1 egn
          refine hK.out _ _ ⟨(unhide HB).cell (i := 0) rfl, (unhide HB).cell (i := 1) rfl, (unhide HB).cell (i := 2) rfl, (unhide HB).cell (i := 3) rfl, (unhide HB).cell (i := 4) rfl, (unhide HB).cell (i := 5) rfl, (unhide HB).cell (i := 6) rfl, (unhide HSg).1, (unhide HSg).2⟩ (fun hHeld => ?_)
          clear hK K
          try simp only [Act.put, List.setIfInBounds_toArray, List.set_cons_zero, List.set_cons_succ]
          refine wpAnyH_ready (rs := [10]) (by kernel_rfl) (by simp) ?_
          refine AllReadyH.cons rfl (fun K hK => ?_) AllReadyH.nil
          have rf0 := (unhide HN).frozen 0
          have r0 := (unhide HN).cell (i := 0) rfl
          have rf1 := (unhide HN).frozen 1
          have r1 := (unhide HN).cell (i := 1) rfl
          have rf2 := (unhide HN).frozen 2
          have r2 := (unhide HN).cell (i := 2) rfl
          have rf3 := (unhide HN).frozen 3
          have r3 := (unhide HN).cell (i := 3) rfl
          have rf4 := (unhide HN).frozen 4
          have r4 := (unhide HN).cell (i := 4) rfl
          have rf5 := (unhide HN).frozen 5
          have r5 := (unhide HN).cell (i := 5) rfl
          have rf6 := (unhide HN).frozen 6
          have r6 := (unhide HN).cell (i := 6) rfl
          have HBN := hide ((((((((unhide HN).set 0 (.int .i64 z.q) (by simp)).set 1 (.int .i64 z.ld) (by simp)).set 2 (.int .i64 z.he) (by simp)).set 3 (.int .i64 z.lw) (by simp)).set 4 (.int .i64 z.hg) (by simp)).set 5 (.int .i64 z.lm) (by simp)).set 6 (.int .i64 z.rs) (by simp))
          have HKS : Hid (Kept (fun b => b = gn) wb1 (((((((wb1.setCell ⟨gn, 0, none⟩ (.int .i64 z.q)).setCell ⟨gn, 1, none⟩ (.int .i64 z.ld)).setCell ⟨gn, 2, none⟩ (.int .i64 z.he)).setCell ⟨gn, 3, none⟩ (.int .i64 z.lw)).setCell ⟨gn, 4, none⟩ (.int .i64 z.hg)).setCell ⟨gn, 5, none⟩ (.int .i64 z.lm)).setCell ⟨gn, 6, none⟩ (.int .i64 z.rs))) := ((((((((Kept.refl (fun b => b = gn) _).setCell (p := ⟨gn, 0, none⟩) rfl _).setCell (p := ⟨gn, 1, none⟩) rfl _).setCell (p := ⟨gn, 2, none⟩) rfl _).setCell (p := ⟨gn, 3, none⟩) rfl _).setCell (p := ⟨gn, 4, none⟩) rfl _).setCell (p := ⟨gn, 5, none⟩) rfl _).setCell (p := ⟨gn, 6, none⟩) rfl _)
          have hWB := unhide HW
          replace HW := hide (hWB.trans ((unhide HKS).below hWB.size (fun b e => by omega)))
          clear hWB
          replace HB := hide ((unhide HB).kept (unhide HKS) (fun e => by omega))
          replace HZ := hide ((unhide HZ).kept (unhide HKS) (fun e => by omega))
          replace HR := hide ((unhide HR).kept (unhide HKS) (fun g e _ _ e2 => by simp only [Option.some.injEq, Addr.mk.injEq, and_true] at e; omega))
          replace HSg := hide ((unhide HSg).kept (unhide HKS) (fun e => by omega))
          go_simp
          clear rf0 r0 rf1 r1 rf2 r2 rf3 r3 rf4 r4 rf5 r5 rf6 r6
          refine hK.out _ _ ⟨(unhide HB).cell (i := 0) rfl, (unhide HB).cell (i := 1) rfl, (unhide HB).cell (i := 2) rfl, (unhide HB).cell (i := 3) rfl, (unhide HB).cell (i := 4) rfl, (unhide HB).cell (i := 5) rfl, (unhide HB).cell (i := 6) rfl, (unhide HSg).1, (unhide HSg).2⟩ (fun hHeld => ?_)
          clear hK K
          try simp only [Act.put, List.setIfInBounds_toArray, List.set_cons_zero, List.set_cons_succ]
          refine wpAnyH_take (i := 11) (v := ?_) rfl (by kernel_rfl) (by kernel_rfl) (by kernel_rfl) (fun _ _ _ h => h) (Or.inl ⟨by rfl, ?_⟩) (by assumption) ?_
          rotate_left
          · intro wy hSw
            obtain ⟨hS0, hS1, hS2, hS3, hS4, hS5, hS6, hS7, hS8⟩ := hSw
            go_simp
            try with_reducible rfl
          try simp only [Act.put, List.getElem_toArray, List.getElem_cons_succ, List.getElem_cons_zero, List.setIfInBounds_toArray, List.set_cons_zero, List.set_cons_succ]
          refine wpAnyH_done (by kernel_rfl) ?_ _
          go_wp2
          go_meet
          exact ⟨gn, by trivial, by trivial, hcn, hgn, HW, HB, HZ, HR, HBN⟩
        · go_simp
          obtain ⟨gn, egn⟩ : ∃ z, z = wd.heap.size := ⟨_, rfl⟩
          obtain ⟨wb0, ewb0⟩ : ∃ z, z = wd.alloc (.cells #[.int .i64 0, .int .i64 0, .int .i64 0, .int .i64 0, .int .i64 0, .int .i64 0, .int .i64 0] 37) := ⟨_, rfl⟩
          have hb : Below wd.heap.size wd wb0 := by rw [ewb0]; exact Below.alloc1 _ _
          have HN : Hid (OwnV wb0 gn [.int .i64 0, .int .i64 0, .int .i64 0, .int .i64 0, .int .i64 0, .int .i64 0, .int .i64 0]) := by rw [ewb0, egn]; exact ownV_alloc _ _ _
          rw [← ewb0, ← egn]
          replace HW := hide (Below.step (unhide HW) hb)
          replace HB := hide (OwnV.step (unhide HB) hb)
          replace HZ := hide (OwnV.step (unhide HZ) hb)
          replace HR := hide ((unhide HR).below hb)
          replace HSg := hide ((unhide HSg).step hb)
          have hcn : co < gn := by omega
          have hgn : g0 + 1 < gn := by omega
          have hgw : w.heap.size ≤ gn := by omega
          have hbn : bo < gn := by omega
          clear hb ewb0 egn
          refine hK.out _ _ ⟨(unhide HB).cell (i := 0) rfl, (unhide HB).cell (i := 1) rfl, (unhide HB).cell (i := 2) rfl, (unhide HB).cell (i := 3) rfl, (unhide HB).cell (i := 4) rfl, (unhide HB).cell (i := 5) rfl, (unhide HB).cell (i := 6) rfl, (unhide HSg).1, (unhide HSg).2⟩ (fun hHeld => ?_)
          clear hK K
          try simp only [Act.put, List.setIfInBounds_toArray, List.set_cons_zero, List.set_cons_succ]
          refine wpAnyH_ready (rs := [5]) (by kernel_rfl) (by simp) ?_
          refine AllReadyH.cons rfl (fun K hK => ?_) AllReadyH.nil
          go_simp
          have HCQ := hide (unhide HC wb0)
          refine (unhide HCQ).mono ?_
          rintro e wc0a ⟨rfl, hb⟩
          replace HW := hide (Below.step (unhide HW) hb)
          replace HB := hide (OwnV.step (unhide HB) hb)
          replace HZ := hide (OwnV.step (unhide HZ) hb)
          replace HR := hide ((unhide HR).below hb)
          replace HSg := hide ((unhide HSg).step hb)
          replace HN := hide (OwnV.step (unhide HN) hb)
          have hswc0a := hb.size
          clear hb HCQ
          refine hK.out _ _ ⟨(unhide HB).cell (i := 0) rfl, (unhide HB).cell (i := 1) rfl, (unhide HB).cell (i := 2) rfl, (unhide HB).cell (i := 3) rfl, (unhide HB).cell (i := 4) rfl, (unhide HB).cell (i := 5) rfl, (unhide HB).cell (i := 6) rfl, (unhide HSg).1, (unhide HSg).2⟩ (fun hHeld => ?_)
          clear hK K
          try simp only [Act.put, List.setIfInBounds_toArray, List.set_cons_zero, List.set_cons_succ]
          refine wpAnyH_take (i := 6) (v := ?_) rfl (by kernel_rfl) (by kernel_rfl) (by kernel_rfl) (fun _ _ _ h => h) (Or.inl ⟨by rfl, ?_⟩) (by assumption) ?_
          rotate_left
          · intro wy hSw
            obtain ⟨hS0, hS1, hS2, hS3, hS4, hS5, hS6, hS7, hS8⟩ := hSw
            go_simp
            try with_reducible rfl
          try simp only [Act.put, List.getElem_toArray, List.getElem_cons_succ, List.getElem_cons_zero, List.setIfInBounds_toArray, List.set_cons_zero, List.set_cons_succ]
          refine wpAnyH_take (i := 7) (v := ?_) rfl (by kernel_rfl) (by kernel_rfl) (by kernel_rfl) (fun _ _ _ h => h) (Or.inl ⟨by rfl, ?_⟩) (by assumption) ?_
          rotate_left
          · intro wy hSw
            obtain ⟨hS0, hS1, hS2, hS3, hS4, hS5, hS6, hS7, hS8⟩ := hSw
            go_simp
            try with_reducible rfl
          try simp only [Act.put, List.getElem_toArray, List.getElem_cons_succ, List.getElem_cons_zero, List.setIfInBounds_toArray, List.set_cons_zero, List.set_cons_succ]
          refine wpAnyH_take (i := 8) (v := ?_) rfl (by kernel_rfl) (by kernel_rfl) (by kernel_rfl) (fun _ _ _ h => h) (Or.inl ⟨by rfl, ?_⟩) (by assumption) ?_
          rotate_left
          · intro wy hSw
            obtain ⟨hS0, hS1, hS2, hS3, hS4, hS5, hS6, hS7, hS8⟩ := hSw
            go_simp
            try with_reducible rfl
          try simp only [Act.put, List.getElem_toArray, List.getElem_cons_succ, List.getElem_cons_zero, List.setIfInBounds_toArray, List.set_cons_zero, List.set_cons_succ]
          refine wpAnyH_ready (rs := [10]) (by kernel_rfl) (by simp) ?_
          refine AllReadyH.cons rfl (fun K hK => ?_) AllReadyH.nil
          have rf0 := (unhide HN).frozen 0
          have r0 := (unhide HN).cell (i := 0) rfl
          have rf1 := (unhide HN).frozen 1
          have r1 := (unhide HN).cell (i := 1) rfl
          have rf2 := (unhide HN).frozen 2
          have r2 := (unhide HN).cell (i := 2) rfl
          have rf3 := (unhide HN).frozen 3
          have r3 := (unhide HN).cell (i := 3) rfl
          have rf4 := (unhide HN).frozen 4
          have r4 := (unhide HN).cell (i := 4) rfl
          have rf5 := (unhide HN).frozen 5
          have r5 := (unhide HN).cell (i := 5) rfl
          have rf6 := (unhide HN).frozen 6
          have r6 := (unhide HN).cell (i := 6) rfl
          have HBN := hide ((((((((unhide HN).set 0 (.int .i64 z.q) (by simp)).set 1 (.int .i64 z.ld) (by simp)).set 2 (.int .i64 z.he) (by simp)).set 3 (.int .i64 z.lw) (by simp)).set 4 (.int .i64 z.hg) (by simp)).set 5 (.int .i64 z.lm) (by simp)).set 6 (.int .i64 z.rs) (by simp))
          have HKS : Hid (Kept (fun b => b = gn) wc0a (((((((wc0a.setCell ⟨gn, 0, none⟩ (.int .i64 z.q)).setCell ⟨gn, 1, none⟩ (.int .i64 z.ld)).setCell ⟨gn, 2, none⟩ (.int .i64 z.he)).setCell ⟨gn, 3, none⟩ (.int .i64 z.lw)).setCell ⟨gn, 4, none⟩ (.int .i64 z.hg)).setCell ⟨gn, 5, none⟩ (.int .i64 z.lm)).setCell ⟨gn, 6, none⟩ (.int .i64 z.rs))) := ((((((((Kept.refl (fun b => b = gn) _).setCell (p := ⟨gn, 0, none⟩) rfl _).setCell (p := ⟨gn, 1, none⟩) rfl _).setCell (p := ⟨gn, 2, none⟩) rfl _).setCell (p := ⟨gn, 3, none⟩) rfl _).setCell (p := ⟨gn, 4, none⟩) rfl _).setCell (p := ⟨gn, 5, none⟩) rfl _).setCell (p := ⟨gn, 6, none⟩) rfl _)
          have hWB := unhide HW
          replace HW := hide (hWB.trans ((unhide HKS).below hWB.size (fun b e => by omega)))
          clear hWB
          replace HB := hide ((unhide HB).kept (unhide HKS) (fun e => by omega))
          replace HZ := hide ((unhide HZ).kept (unhide HKS) (fun e => by omega))
          replace HR := hide ((unhide HR).kept (unhide HKS) (fun g e _ _ e2 => by simp only [Option.some.injEq, Addr.mk.injEq, and_true] at e; omega))
          replace HSg := hide ((unhide HSg).kept (unhide HKS) (fun e => by omega))
          go_simp
          clear rf0 r0 rf1 r1 rf2 r2 rf3 r3 rf4 r4 rf5 r5 rf6 r6
          refine hK.out _ _ ⟨(unhide HB).cell (i := 0) rfl, (unhide HB).cell (i := 1) rfl, (unhide HB).cell (i := 2) rfl, (unhide HB).cell (i := 3) rfl, (unhide HB).cell (i := 4) rfl, (unhide HB).cell (i := 5) rfl, (unhide HB).cell (i := 6) rfl, (unhide HSg).1, (unhide HSg).2⟩ (fun hHeld => ?_)
          clear hK K
          try simp only [Act.put, List.setIfInBounds_toArray, List.set_cons_zero, List.set_cons_succ]
          refine wpAnyH_take (i := 11) (v := ?_) rfl (by kernel_rfl) (by kernel_rfl) (by kernel_rfl) (fun _ _ _ h => h) (Or.inl ⟨by rfl, ?_⟩) (by assumption) ?_
          rotate_left
          · intro wy hSw
            obtain ⟨hS0, hS1, hS2, hS3, hS4, hS5, hS6, hS7, hS8⟩ := hSw
            go_simp
            try with_reducible rfl
          try simp only [Act.put, List.getElem_toArray, List.getElem_cons_succ, List.getElem_cons_zero, List.setIfInBounds_toArray, List.set_cons_zero, List.set_cons_succ]
          refine wpAnyH_done (by kernel_rfl) ?_ _
          go_wp2
          go_meet
          exact ⟨gn, by trivial, by trivial, hcn, hgn, HW, HB, HZ, HR, HBN⟩
      case rest =>
        obtain ⟨gn, rfl, rfl, hcn, hgn, HW2, HB2, HZ2, HR2, HN2⟩ := hcut
        clear HW HB HZ HR HSg HC
        have n0 := (unhide HN2).cell (i := 0) rfl
        have n1 := (unhide HN2).cell (i := 1) rfl
        have n2 := (unhide HN2).cell (i := 2) rfl
        have n3 := (unhide HN2).cell (i := 3) rfl
        have n4 := (unhide HN2).cell (i := 4) rfl
        have n5 := (unhide HN2).cell (i := 5) rfl
        have n6 := (unhide HN2).cell (i := 6) rfl
        have q0 := (unhide HB2).cell (i := 0) rfl
        have q1 := (unhide HB2).cell (i := 1) rfl
        have q2 := (unhide HB2).cell (i := 2) rfl
        have q3 := (unhide HB2).cell (i := 3) rfl
        have q4 := (unhide HB2).cell (i := 4) rfl
        have q5 := (unhide HB2).cell (i := 5) rfl
        have q6 := (unhide HB2).cell (i := 6) rfl
        have qf0 := (unhide HB2).frozen 0
        have qf1 := (unhide HB2).frozen 1
        have qf2 := (unhide HB2).frozen 2
        have qf3 := (unhide HB2).frozen 3
        have qf4 := (unhide HB2).frozen 4
        have qf5 := (unhide HB2).frozen 5
        have qf6 := (unhide HB2).frozen 6
        have hng : ¬ gn = g0 := by omega
        have hng2 : ¬ g0 = gn := by omega
        go_upto_region 7 with (fail)
        obtain ⟨V5, eV5⟩ : ∃ vv, vv = (((((((wc.setCell ⟨g0, 0, none⟩ (.int .i64 z.q)).setCell ⟨g0, 1, none⟩ (.int .i64 z.ld)).setCell ⟨g0, 2, none⟩ (.int .i64 z.he)).setCell ⟨g0, 3, none⟩ (.int .i64 z.lw)).setCell ⟨g0, 4, none⟩ (.int .i64 z.hg)).setCell ⟨g0, 5, none⟩ (.int .i64 z.lm)).setCell ⟨g0, 6, none⟩ (.int .i64 z.rs)) := ⟨_, rfl⟩
        have hK : Kept (fun b => b = g0) wc V5 := by rw [eV5]; exact ((((((((Kept.refl (fun b => b = g0) _).setCell (p := ⟨g0, 0, none⟩) rfl _).setCell (p := ⟨g0, 1, none⟩) rfl _).setCell (p := ⟨g0, 2, none⟩) rfl _).setCell (p := ⟨g0, 3, none⟩) rfl _).setCell (p := ⟨g0, 4, none⟩) rfl _).setCell (p := ⟨g0, 5, none⟩) rfl _).setCell (p := ⟨g0, 6, none⟩) rfl _)
        have HB := hide (show OwnV V5 g0 [.int .i64 z.q, .int .i64 z.ld, .int .i64 z.he, .int .i64 z.lw, .int .i64 z.hg, .int .i64 z.lm, .int .i64 z.rs] by rw [eV5]; exact ((((((((unhide HB2).set 0 (.int .i64 z.q) (by simp)).set 1 (.int .i64 z.ld) (by simp)).set 2 (.int .i64 z.he) (by simp)).set 3 (.int .i64 z.lw) (by simp)).set 4 (.int .i64 z.hg) (by simp)).set 5 (.int .i64 z.lm) (by simp)).set 6 (.int .i64 z.rs) (by simp)))
        rw [← eV5]
        have hWB := unhide HW2
        have HW := hide (hWB.trans (hK.below hWB.size (fun b e => by omega)))
        have HZ := hide ((unhide HZ2).kept hK (fun e => by omega))
        have HR := hide ((unhide HR2).kept hK (fun g e hB _ e2 => by omega))
        clear eV5 hK hWB HW2 HB2 HZ2 HR2 HN2 n0 q0 qf0 n1 q1 qf1 n2 q2 qf2 n3 q3 qf3 n4 q4 qf4 n5 q5 qf5 n6 q6 qf6
        have A5 := Below.alloc1 V5 (.cells #[.bool bb] 4)
        have HG := hide (ownV_alloc V5 #[.bool bb] 4)
        replace HW := hide (Below.step (unhide HW) A5)
        replace HB := hide ((unhide HB).step A5)
        replace HZ := hide ((unhide HZ).step A5)
        replace HR := hide ((unhide HR).below A5)
        have hB5 : g0 + 1 + 1 ≤ (V5.alloc (.cells #[.bool bb] 4)).heap.size := (unhide HZ).lt
        clear A5
        go_wp2_with (at_builtin; go_must (refine wpList_appRow tyB _ rfl (.tmp 32) (.tmp 34) rfl (g0 + 1 + 1) (some ⟨co, 0, none⟩) k cc (cdS h (L.take k)) rfl (unhide HR) hB5 (by omega) V5.heap.size bb 1 rfl (unhide HG) ?_); intro g' cap' w' hL hKp hBg hat; have HL2 := hide hL; have HKP := hide hKp; clear hL hKp hat hBg)
        have hco : ∀ q, (some ⟨co, 0, none⟩ : Option Addr) = some ⟨q, 0, none⟩ → q = co := fun q e => by simp only [Option.some.injEq, Addr.mk.injEq, and_true] at e; exact e.symm
        have hcob : g0 + 1 + 1 ≤ co := by
          rcases (unhide HR).parts (by omega) with ⟨e, _⟩ | ⟨g9, e, hB9, _⟩
          · cases e
          · simp only [Option.some.injEq, Addr.mk.injEq, and_true] at e; omega
        have HB9 := hide ((unhide HB).kept (unhide HKP) (fun e => by have := hco _ e; omega))
        have HZ9 := hide ((unhide HZ).kept (unhide HKP) (fun e => by have := hco _ e; omega))
        have hWB := unhide HW
        have HW9 := hide (hWB.trans ((unhide HKP).below hWB.size (fun b e => by have := hco _ e; omega)))
        rw [← unhide HS2] at HL2
        go_roundg (L.length - (k + 1))
        case measure => omega
        case rel => exact ⟨k + 1, g', cap', z, by omega, rfl, rfl, by go_num, hide (unhide HS1).symm, HW9, HB9, HZ9, HL2⟩
    · have hkk : k = L.length := by omega
      have dki : decide ((k : Int) < (L.length : Int)) = false := decide_eq_false (by omega)
      have nki : ¬ ((k : Int) < (L.length : Int)) := by omega
      have HE1 : Hid (rsH h L = y) := by show _ = _; unfold rsH; rw [if_pos h200, unhide HY, hkk, List.take_length]
      have HE2 : Hid (rsC h L = cdS h (L.take k)) := by show _ = _; unfold rsC; rw [if_pos h200, hkk, List.take_length]
      clear hkk
      have b0 := (unhide HB).cell (i := 0) rfl
      have b1 := (unhide HB).cell (i := 1) rfl
      have b2 := (unhide HB).cell (i := 2) rfl
      have b3 := (unhide HB).cell (i := 3) rfl
      have b4 := (unhide HB).cell (i := 4) rfl
      have b5 := (unhide HB).cell (i := 5) rfl
      have b6 := (unhide HB).cell (i := 6) rfl
      have z0 := (unhide HZ).cell (i := 0) rfl
      have z1 := (unhide HZ).cell (i := 1) rfl
      have z2 := (unhide HZ).cell (i := 2) rfl
      have z3 := (unhide HZ).cell (i := 3) rfl
      have z4 := (unhide HZ).cell (i := 4) rfl
      have z5 := (unhide HZ).cell (i := 5) rfl
      have z6 := (unhide HZ).cell (i := 6) rfl
      have zf0 := (unhide HZ).frozen 0
      have zf1 := (unhide HZ).frozen 1
      have zf2 := (unhide HZ).frozen 2
      have zf3 := (unhide HZ).frozen 3
      have zf4 := (unhide HZ).frozen 4
      have zf5 := (unhide HZ).frozen 5
      have zf6 := (unhide HZ).frozen 6
      have hWz := (unhide HW).size
      go_wp2
      refine bodyPost_ret (v := .tuple #[vHoist y.q y.ld y.he y.lw y.hg y.lm y.rs, .slice (some ⟨co, 0, none⟩) k cc]) (by simp [results, Try.results40, go_sem, vHoist, z0, z1, z2, z3, z4, z5, z6]) rfl ⟨some ⟨co, 0, none⟩, k, cc, ?_, ?_, ?_⟩
      · rw [unhide HE1]; rfl
      · rw [unhide HE2]
        refine row_ownBo (B := g0 + 1 + 1) ((unhide HR).kept (P := fun b => b = g0 + 1) ((((((((Kept.refl (fun b => b = g0 + 1) _).setCell (p := ⟨g0 + 1, 0, none⟩) rfl (.int .i64 y.q)).setCell (p := ⟨g0 + 1, 1, none⟩) rfl (.int .i64 y.ld)).setCell (p := ⟨g0 + 1, 2, none⟩) rfl (.int .i64 y.he)).setCell (p := ⟨g0 + 1, 3, none⟩) rfl (.int .i64 y.lw)).setCell (p := ⟨g0 + 1, 4, none⟩) rfl (.int .i64 y.hg)).setCell (p := ⟨g0 + 1, 5, none⟩) rfl (.int .i64 y.lm)).setCell (p := ⟨g0 + 1, 6, none⟩) rfl (.int .i64 y.rs)) (fun g _ hB _ e => by omega)) (by omega)
      · repeat (refine Below.setCell ?_ (by dsimp only; omega) _)
        exact unhide HW

end Go.Proofs.Ytgmhijbepkobkaa
