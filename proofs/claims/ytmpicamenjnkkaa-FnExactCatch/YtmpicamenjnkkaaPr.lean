/- Laid together out of: CatS. -/
import Derived.Test.YtmpicamenjnkkaaPp
import Derived.Test.YtmpicamenjnkkaaPq
import Derived.Deep.AppendLies

/- The contract of the specification's Catch. Written by wip/mkcats.py. -/
namespace Go.Proofs.Ytmpicamenjnkkaa
open Go.RowKit

theorem Try.infoBoolC : (Try.prog.info? 4).map (fun i => (i.zero, i.size, i.bytes)) = some (some (Value.bool false), 1, 1) := by kernel_rfl
theorem ownsRow_kept5 {T : Nat → Prop} {w w' : World} {base n size g cap : Nat} {e : TypeId} {xs : List Value} (h : w.ownsRow base e size (.slice (some ⟨g, 0, none⟩) n cap) n xs) (hk : Kept T w w') (hT : ¬ T g) : w'.ownsRow base e size (.slice (some ⟨g, 0, none⟩) n cap) n xs := by
  obtain ⟨h1, h2⟩ := h
  refine ⟨h1, ?_⟩
  rcases h2 with h2 | ⟨g', cap', cur, hv, hg, hh, r⟩
  · exact Or.inl h2
  · simp only [Value.slice.injEq, Option.some.injEq, Addr.mk.injEq, and_true, true_and] at hv
    obtain ⟨rfl, rfl⟩ := hv
    obtain ⟨hlt, _⟩ := Array.getElem?_eq_some_iff.1 hh
    exact Or.inr ⟨g, cap, cur, rfl, hg, (hk.block g hlt hT).trans hh, r⟩
theorem rowAll {w : World} {base n g cap : Nat} {e : TypeId} {xs : List Value} (h : w.ownsRow base e 1 (.slice (some ⟨g, 0, none⟩) n cap) n xs) : n ≤ cap ∧ cap ≤ maxLen ∧ base ≤ g ∧ OwnV w g xs := by
  obtain ⟨h1, h2⟩ := h
  rcases h2 with ⟨hv, _⟩ | ⟨g', cap', cur, hv, hg, hh, hc, hm, hs, ht⟩
  · cases hv
  · simp only [Value.slice.injEq, Option.some.injEq, Addr.mk.injEq, and_true, true_and] at hv
    obtain ⟨rfl, rfl⟩ := hv
    refine ⟨hc, hm, hg, cur, e, hh, fun i hi => ?_⟩
    rw [← ht, List.getElem?_take, if_pos (by omega)]
    simp
/-- The places below i that are not done, as numbers. -/
def lowL (B : List Bool) (i : Nat) : List Int := ((List.range i).filter (fun r => !B.getD r false)).map Int.ofNat
theorem lowL_len (B : List Bool) (i : Nat) : (lowL B i).length ≤ i := by
  unfold lowL
  rw [List.length_map]
  have := List.length_filter_le (fun r => !B.getD r false) (List.range i)
  rw [List.length_range] at this
  exact this
theorem lowL_yes {B : List Bool} {i : Nat} (h : B.getD i false = true) : lowL B (i + 1) = lowL B i := by
  unfold lowL
  rw [List.range_succ, List.filter_append]
  simp only [List.filter_cons, List.filter_nil, h]
  simp
theorem lowL_no {B : List Bool} {i : Nat} (h : B.getD i false = false) : lowL B (i + 1) = lowL B i ++ [(i : Int)] := by
  unfold lowL
  rw [List.range_succ, List.filter_append]
  simp only [List.filter_cons, List.filter_nil, h]
  simp
theorem lowL_all {B : List Bool} {n : Nat} (h1 : B.length ≤ n) (h2 : n ≤ B.length) : lowL B n = (undL B).map Int.ofNat := by
  have : n = B.length := by omega
  rw [this]
  rfl
theorem ints_snocC (xs : List Int) (x : Int) : ints (xs ++ [x]) = ints xs ++ [.int .i64 x] := by simp [ints]
theorem Try.infoIntC : (Try.prog.info? 3).map (fun i => (i.zero, i.size, i.bytes)) = some (some (Value.int .i64 0), 1, 8) := by kernel_rfl
theorem bools_madeC (n : Nat) : (madeCells #[Value.bool false] n).toList = (List.replicate n false).map Value.bool := by
  apply List.ext_getElem?
  intro i
  by_cases h : i < n
  · simp [madeCells, h, Nat.mod_one]
  · simp [madeCells, h]
/-- What Catch holds between two looks: the chart's box, the answer's box, what is done; the chart's own rows. -/
structure Cat (w W : World) (gL gD : Nat) (d : Ch) (da : Option Addr) (dk : Nat) (fa : Option Addr) (fk Bc Uc : Nat) (B : List Bool) : Prop where
  hb : Blks w W [(gD, (B).map Value.bool), (w.heap.size, [.int .i64 d.wd, .int .i64 d.hg, .slice da d.D.length dk, .slice fa d.F.length fk, .int .i64 d.ed]), (w.heap.size + 1, [.int .i64 0, .int .i64 0, .slice none 0 0, .slice none 0 0, .int .i64 0])]
  own : OwnCh Bc Uc W da dk fa fk d.D d.F (recCells 5 eFeature d.F)
  far : Uc ≤ gL ∨ gD < Bc
  lo : w.heap.size + 2 ≤ Bc
  ld : gL < gD
  ll : w.heap.size + 1 < gL
  sd : d.D.length ≤ 1048576
  sf : d.F.length ≤ 1048576
theorem Cat.step {w W W' : World} {gL gD : Nat} {d : Ch} {da fa : Option Addr} {dk fk Bc Uc : Nat} {B : List Bool} (h : Cat w W gL gD d da dk fa fk Bc Uc B) (hb : Below W.heap.size W W') : Cat w W' gL gD d da dk fa fk Bc Uc B := ⟨h.hb.step hb, h.own.below hb, h.far, h.lo, h.ld, h.ll, h.sd, h.sf⟩
theorem Cat.done {w W : World} {gL gD : Nat} {d : Ch} {da fa : Option Addr} {dk fk Bc Uc : Nat} {B : List Bool} (h : Cat w W gL gD d da dk fa fk Bc Uc B) {i : Nat} (hi : i < B.length) : Cat w (W.setCell ⟨gD, i, none⟩ (.bool true)) gL gD d da dk fa fk Bc Uc (B.set i true) := by
  have hk : Kept (fun b => b = gD) W (W.setCell ⟨gD, i, none⟩ (.bool true)) := Kept.setCell (T := fun b => b = gD) (Kept.refl _ _) (p := ⟨gD, i, none⟩) rfl _
  have hd := (h.hb.at (g := gD) (vs := B.map Value.bool) (by simp)).set i (.bool true) (by simpa using hi)
  rw [← List.map_set] at hd
  have h1 := h.ld
  have h2 := h.ll
  have h3 := h.lo
  refine ⟨((h.hb.kept (L' := [(w.heap.size, [.int .i64 d.wd, .int .i64 d.hg, .slice da d.D.length dk, .slice fa d.F.length fk, .int .i64 d.ed]), (w.heap.size + 1, [.int .i64 0, .int .i64 0, .slice none 0 0, .slice none 0 0, .int .i64 0])]) hk (fun b hb => by omega) (by intro p hp; simp only [List.mem_cons, List.not_mem_nil, or_false] at hp; rcases hp with rfl | rfl <;> exact ⟨by simp, by simp only; omega⟩)).push hd (by omega)), h.own.kept hk (fun b hb1 hb2 e => by have := h.far; omega), h.far, h.lo, h.ld, h.ll, h.sd, h.sf⟩

theorem Cat.kept {T : Nat → Prop} {w W W' : World} {gL gD : Nat} {d : Ch} {da fa : Option Addr} {dk fk Bc Uc : Nat} {B : List Bool} (h : Cat w W gL gD d da dk fa fk Bc Uc B) (hk : Kept T W W') (hT : ∀ b, T b → W.heap.size ≤ b ∨ (gD < b ∧ (b < Bc ∨ Uc ≤ b))) : Cat w W' gL gD d da dk fa fk Bc Uc B := by
  have h1 := h.ld
  have h2 := h.ll
  have h3 := h.lo
  have h4 := h.own.sizes
  have h5 : gD < W.heap.size := (h.hb.at (g := gD) (vs := B.map Value.bool) (by simp)).lt
  refine ⟨h.hb.kept (L' := [(gD, (B).map Value.bool), (w.heap.size, [.int .i64 d.wd, .int .i64 d.hg, .slice da d.D.length dk, .slice fa d.F.length fk, .int .i64 d.ed]), (w.heap.size + 1, [.int .i64 0, .int .i64 0, .slice none 0 0, .slice none 0 0, .int .i64 0])]) hk (fun b hb => by have := hT b hb; omega) (by intro p hp; simp only [List.mem_cons, List.not_mem_nil, or_false] at hp; rcases hp with rfl | rfl | rfl <;> exact ⟨by simp, fun e => by have := hT _ e; simp only at this; omega⟩), h.own.kept hk (fun b hb1 hb2 e => by have := hT b e; omega), h.far, h.lo, h.ld, h.ll, h.sd, h.sf⟩
theorem Cat.kept2 {T : Nat → Prop} {w W W' : World} {gL gD : Nat} {d : Ch} {da fa : Option Addr} {dk fk Bc Uc : Nat} {B : List Bool} (h : Cat w W gL gD d da dk fa fk Bc Uc B) (hk : Kept T W W') (hT : ∀ b, T b → w.heap.size + 1 < b ∧ b ≠ gD ∧ (b < Bc ∨ Uc ≤ b)) : Cat w W' gL gD d da dk fa fk Bc Uc B := by
  have h1 := h.ld
  have h2 := h.ll
  refine ⟨h.hb.kept (L' := [(gD, (B).map Value.bool), (w.heap.size, [.int .i64 d.wd, .int .i64 d.hg, .slice da d.D.length dk, .slice fa d.F.length fk, .int .i64 d.ed]), (w.heap.size + 1, [.int .i64 0, .int .i64 0, .slice none 0 0, .slice none 0 0, .int .i64 0])]) hk (fun b hb => by have := hT b hb; omega) (by intro p hp; simp only [List.mem_cons, List.not_mem_nil, or_false] at hp; rcases hp with rfl | rfl | rfl <;> exact ⟨by simp, fun e => by have := hT _ e; simp only at this; omega⟩), h.own.kept hk (fun b hb1 hb2 e => by have := hT b e; omega), h.far, h.lo, h.ld, h.ll, h.sd, h.sf⟩
theorem Cat.next {w W : World} {gL gD : Nat} {d d' : Ch} {da fa qa qb : Option Addr} {dk fk Bc Uc qk ql Bn Un : Nat} {B : List Bool} (h : Cat w W gL gD d da dk fa fk Bc Uc B) (hn : OwnCh Bn Un W qa qk qb ql d'.D d'.F (recCells 5 eFeature d'.F)) (hB : gD < Bn) (hd : d'.D.length ≤ 1048576) (hf : d'.F.length ≤ 1048576) : Cat w (((((W.setCell ⟨w.heap.size, 0, none⟩ (.int .i64 d'.wd)).setCell ⟨w.heap.size, 1, none⟩ (.int .i64 d'.hg)).setCell ⟨w.heap.size, 2, none⟩ (.slice qa d'.D.length qk)).setCell ⟨w.heap.size, 3, none⟩ (.slice qb d'.F.length ql)).setCell ⟨w.heap.size, 4, none⟩ (.int .i64 d'.ed)) gL gD d' qa qk qb ql Bn Un B := by
  have h1 := h.ld
  have h2 := h.ll
  have hk := kept_five (Kept.refl (fun b => b = w.heap.size) W) rfl (.int .i64 d'.wd) (.int .i64 d'.hg) (.slice qa d'.D.length qk) (.slice qb d'.F.length ql) (.int .i64 d'.ed)
  refine ⟨(blks_five (h.hb.less (L' := [(gD, (B).map Value.bool), (w.heap.size + 1, [.int .i64 0, .int .i64 0, .slice none 0 0, .slice none 0 0, .int .i64 0])]) (by simp)) (h.hb.at (g := w.heap.size) (vs := [.int .i64 d.wd, .int .i64 d.hg, .slice da d.D.length dk, .slice fa d.F.length fk, .int .i64 d.ed]) (by simp)) (Nat.le_refl _) (by intro p hp; simp only [List.mem_cons, List.not_mem_nil, or_false] at hp; rcases hp with rfl | rfl <;> (simp only; omega)) (.int .i64 d'.wd) (.int .i64 d'.hg) (.slice qa d'.D.length qk) (.slice qb d'.F.length ql) (.int .i64 d'.ed)).less (by intro p hp; simp only [List.mem_cons, List.not_mem_nil, or_false] at hp ⊢; rcases hp with rfl | rfl | rfl <;> simp), hn.kept hk (fun b hb1 hb2 e => by omega), Or.inr hB, by omega, h.ld, h.ll, hd, hf⟩

set_option maxRecDepth 1000000 in
set_option maxHeartbeats 16000000 in
theorem specCatch_any (c : Ch) (L : List UpT) (dao : Option Addr) (dn dc : Nat) (fao : Option Addr) (fn fc : Nat) (lao : Option Addr) (ln lc : Nat) (w : World) (hD : IntsIn w (.slice dao dn dc) c.D) (hF : RFeature w (.slice fao fn fc) c.F) (hL : UpsIn w (.slice lao ln lc) L) (hsD : c.D.length ≤ 1048576) (hsF : c.F.length ≤ 1048576) (hsL : ∀ i, i < L.length → (L.getD i default).2.length ≤ 1048576) :
    Calls Try.prog 31 #[vChart c.wd c.hg (.slice dao dn dc) (.slice fao fn fc) c.ed, .slice lao ln lc] w fun e w' => ∃ da dk fa fk la lm lk, e = .returned (.tuple #[vChart (catch6 c L).1.wd (catch6 c L).1.hg (.slice da (catch6 c L).1.D.length dk) (.slice fa (catch6 c L).1.F.length fk) (catch6 c L).1.ed, .slice la lm lk]) ∧ OwnCh w.heap.size w'.heap.size w' da dk fa fk (catch6 c L).1.D (catch6 c L).1.F (recCells 5 eFeature (catch6 c L).1.F) ∧ OwnSl w.heap.size w' (.slice la lm lk) ((catch6 c L).2.map Int.ofNat) ∧ Below w.heap.size w w' := by
  obtain rfl := ints_len_eq hD
  obtain rfl := recs_len_eq hF
  obtain ⟨⟨A, und⟩, eA⟩ : ∃ z, z = catch6 c L := ⟨_, rfl⟩
  rw [← eA]
  dsimp only
  have EA := hide eA
  clear eA
  have HB := hide (((blks_nil w).made #[.int .i64 c.wd, .int .i64 c.hg, .slice dao c.D.length dc, .slice fao c.F.length fc, .int .i64 c.ed] 27).made #[.int .i64 0, .int .i64 0, .slice none 0 0, .slice none 0 0, .int .i64 0] 27)
  simp only [World.size_alloc] at HB
  have HC1 := hide (l6Copy_own c.wd c.hg c.ed dao c.D.length dc fao c.F.length fc c.D c.F _ (hD.below (unhide HB).below) (hF.below (unhide HB).below) hsD hsF)
  have HL := hide hL
  obtain ⟨lao', lc', eL, hll, hlm, hlc⟩ := hL
  simp only [Value.slice.injEq] at eL
  obtain ⟨rfl, rfl, rfl⟩ := eL
  unfold maxLen at hlm
  obtain ⟨ib, hib, hb0, hb1, hb2⟩ := info_parts Try.infoBoolC
  obtain ⟨ii, hii, hi0, hi1, hi2⟩ := info_parts Try.infoIntC
  clear hD hF hlc
  unfold vChart at *
  go_enter Try.func31, Try.ntmps31
  have hq := (unhide HB).at (g := w.heap.size) (vs := [.int .i64 c.wd, .int .i64 c.hg, .slice dao c.D.length dc, .slice fao c.F.length fc, .int .i64 c.ed]) (by simp)
  have a0 := hq.cell (i := 0) rfl
  have a1 := hq.cell (i := 1) rfl
  have a2 := hq.cell (i := 2) rfl
  have a3 := hq.cell (i := 3) rfl
  have a4 := hq.cell (i := 4) rfl
  clear hq
  go_wp2_with fail
  refine (unhide HC1).mono ?_
  rintro e w1 ⟨g1, k1, g2, k2, rfl, hO, hb, hl1, hl2⟩
  have hz0 := (unhide HB).lt (w.heap.size + 1, [.int .i64 0, .int .i64 0, .slice none 0 0, .slice none 0 0, .int .i64 0]) (by simp)
  simp only at hz0
  replace HB := hide ((unhide HB).step hb)
  have hzb := hb.size
  clear hb HC1 a0 a1 a2 a3 a4
  have hq := (unhide HB).at (g := w.heap.size) (vs := [.int .i64 c.wd, .int .i64 c.hg, .slice dao c.D.length dc, .slice fao c.F.length fc, .int .i64 c.ed]) (by simp)
  have a0 := hq.cell (i := 0) rfl
  have a1 := hq.cell (i := 1) rfl
  have a2 := hq.cell (i := 2) rfl
  have a3 := hq.cell (i := 3) rfl
  have a4 := hq.cell (i := 4) rfl
  clear hq
  have af := ((unhide HB).at (g := w.heap.size) (vs := [.int .i64 c.wd, .int .i64 c.hg, .slice dao c.D.length dc, .slice fao c.F.length fc, .int .i64 c.ed]) (by simp)).frozen
  go_upto_region 2 with (fail)
  have K5 := kept_five (Kept.refl (fun b => b = w.heap.size) w1) rfl (.int .i64 c.wd) (.int .i64 c.hg) (.slice (some ⟨g1, 0, none⟩) c.D.length k1) (.slice (some ⟨g2, 0, none⟩) c.F.length k2) (.int .i64 c.ed)
  have HB2 : Hid (Blks w (((((w1.setCell ⟨w.heap.size, 0, none⟩ (.int .i64 c.wd)).setCell ⟨w.heap.size, 1, none⟩ (.int .i64 c.hg)).setCell ⟨w.heap.size, 2, none⟩ (.slice (some ⟨g1, 0, none⟩) c.D.length k1)).setCell ⟨w.heap.size, 3, none⟩ (.slice (some ⟨g2, 0, none⟩) c.F.length k2)).setCell ⟨w.heap.size, 4, none⟩ (.int .i64 c.ed)) [(w.heap.size, [.int .i64 c.wd, .int .i64 c.hg, .slice (some ⟨g1, 0, none⟩) c.D.length k1, .slice (some ⟨g2, 0, none⟩) c.F.length k2, .int .i64 c.ed]), (w.heap.size + 1, [.int .i64 0, .int .i64 0, .slice none 0 0, .slice none 0 0, .int .i64 0])]) := hide (blks_five ((unhide HB).less (L' := [(w.heap.size + 1, [.int .i64 0, .int .i64 0, .slice none 0 0, .slice none 0 0, .int .i64 0])]) (by simp)) ((unhide HB).at (g := w.heap.size) (vs := [.int .i64 c.wd, .int .i64 c.hg, .slice dao c.D.length dc, .slice fao c.F.length fc, .int .i64 c.ed]) (by simp)) (Nat.le_refl _) (by intro p hp; simp only [List.mem_cons, List.not_mem_nil, or_false] at hp; subst hp; simp only; omega) (.int .i64 c.wd) (.int .i64 c.hg) (.slice (some ⟨g1, 0, none⟩) c.D.length k1) (.slice (some ⟨g2, 0, none⟩) c.F.length k2) (.int .i64 c.ed))
  have HS : Hid (OwnCh _ _ (((((w1.setCell ⟨w.heap.size, 0, none⟩ (.int .i64 c.wd)).setCell ⟨w.heap.size, 1, none⟩ (.int .i64 c.hg)).setCell ⟨w.heap.size, 2, none⟩ (.slice (some ⟨g1, 0, none⟩) c.D.length k1)).setCell ⟨w.heap.size, 3, none⟩ (.slice (some ⟨g2, 0, none⟩) c.F.length k2)).setCell ⟨w.heap.size, 4, none⟩ (.int .i64 c.ed)) (some ⟨g1, 0, none⟩) k1 (some ⟨g2, 0, none⟩) k2 c.D c.F (recCells 5 eFeature c.F)) := hide (hO.kept K5 (fun b hb1 hb2 e => by omega))
  have hxz : (((((w1.setCell ⟨w.heap.size, 0, none⟩ (.int .i64 c.wd)).setCell ⟨w.heap.size, 1, none⟩ (.int .i64 c.hg)).setCell ⟨w.heap.size, 2, none⟩ (.slice (some ⟨g1, 0, none⟩) c.D.length k1)).setCell ⟨w.heap.size, 3, none⟩ (.slice (some ⟨g2, 0, none⟩) c.F.length k2)).setCell ⟨w.heap.size, 4, none⟩ (.int .i64 c.ed)).heap.size = w1.heap.size := by simp [World.setCell]
  obtain ⟨X, eX⟩ : ∃ z, z = (((((w1.setCell ⟨w.heap.size, 0, none⟩ (.int .i64 c.wd)).setCell ⟨w.heap.size, 1, none⟩ (.int .i64 c.hg)).setCell ⟨w.heap.size, 2, none⟩ (.slice (some ⟨g1, 0, none⟩) c.D.length k1)).setCell ⟨w.heap.size, 3, none⟩ (.slice (some ⟨g2, 0, none⟩) c.F.length k2)).setCell ⟨w.heap.size, 4, none⟩ (.int .i64 c.ed)) := ⟨_, rfl⟩
  rw [← eX] at HB2 HS hxz ⊢
  clear eX K5 hO HB a0 a1 a2 a3 a4 af
  have HB := HB2
  clear HB2
  simp only [World.size_alloc] at HS
  have HX := hide hxz
  have hxz1 : w.heap.size + 1 < X.heap.size := by omega
  have hlenI : (L.length : Int) = L.length := rfl
  clear hlenI
  have AX := Below.alloc1 X (.cells #[] 3)
  have HBX := hide ((unhide HB).step AX)
  have HSX := hide ((unhide HS).below AX)
  obtain ⟨gL, egL⟩ : ∃ z, z = X.heap.size := ⟨_, rfl⟩
  have hUL : w1.heap.size = gL := by rw [egL, unhide HX]
  rw [hUL] at HSX hl1 hl2
  clear hUL hxz
  go_upto_region 3 with (fail)
  rw [← egL]
  obtain ⟨Y, eY⟩ : ∃ z, z = X.alloc (.cells #[] 3) := ⟨_, rfl⟩
  have hYs : gL < Y.heap.size := by rw [eY, World.size_alloc]; omega
  have HR0 : Hid (Y.ownsRow gL 3 1 (.slice (some ⟨gL, 0, none⟩) 0 0) 0 (ints [])) := by
    show World.ownsRow _ _ _ _ _ _ _
    rw [eY, egL]
    exact ⟨rfl, Or.inr ⟨X.heap.size, 0, #[], rfl, Nat.le_refl _, Go.Deep.blk_alloc_new _ _, Nat.le_refl _, Nat.zero_le _, rfl, rfl⟩⟩
  rw [← eY] at HBX HSX ⊢
  have hgLw : w.heap.size + 1 < gL := by omega
  clear eY AX egL HB HS
  by_cases hn : 60 < L.length
  · have hni : (60 : Int) < L.length := by omega
    have e6 : A = c ∧ und = [] := by
      have := unhide EA
      unfold catch6 at this
      rw [if_pos hn] at this
      exact ⟨congrArg Prod.fst this, congrArg Prod.snd this⟩
    obtain ⟨rfl, rfl⟩ := e6
    have HB := HBX
    have HS := HSX
    clear HBX HSX
    have hq := (unhide HB).at (g := w.heap.size) (vs := [.int .i64 A.wd, .int .i64 A.hg, .slice (some ⟨g1, 0, none⟩) A.D.length k1, .slice (some ⟨g2, 0, none⟩) A.F.length k2, .int .i64 A.ed]) (by simp)
    have c0 := hq.cell (i := 0) rfl
    have c1 := hq.cell (i := 1) rfl
    have c2 := hq.cell (i := 2) rfl
    have c3 := hq.cell (i := 3) rfl
    have c4 := hq.cell (i := 4) rfl
    clear hq
    have hq := (unhide HB).at (g := w.heap.size + 1) (vs := [.int .i64 0, .int .i64 0, .slice none 0 0, .slice none 0 0, .int .i64 0]) (by simp)
    have r0 := hq.cell (i := 0) rfl
    have r1 := hq.cell (i := 1) rfl
    have r2 := hq.cell (i := 2) rfl
    have r3 := hq.cell (i := 3) rfl
    have r4 := hq.cell (i := 4) rfl
    clear hq
    have rf := ((unhide HB).at (g := w.heap.size + 1) (vs := [.int .i64 0, .int .i64 0, .slice none 0 0, .slice none 0 0, .int .i64 0]) (by simp)).frozen
    have hx1 : ¬ w.heap.size = w.heap.size + 1 := by omega
    have hx2 : ¬ w.heap.size + 1 = w.heap.size := by omega
    have K8 := hide (kept_five (Kept.refl (fun b => b = w.heap.size + 1) Y) rfl (.int .i64 A.wd) (.int .i64 A.hg) (.slice (some ⟨g1, 0, none⟩) A.D.length k1) (.slice (some ⟨g2, 0, none⟩) A.F.length k2) (.int .i64 A.ed))
    have HB8 := hide (blks_five ((unhide HB).less (L' := []) (by simp)) ((unhide HB).at (g := w.heap.size + 1) (vs := [.int .i64 0, .int .i64 0, .slice none 0 0, .slice none 0 0, .int .i64 0]) (by simp)) (by omega) (by intro p hp; simp at hp) (.int .i64 A.wd) (.int .i64 A.hg) (.slice (some ⟨g1, 0, none⟩) A.D.length k1) (.slice (some ⟨g2, 0, none⟩) A.F.length k2) (.int .i64 A.ed))
    have HS8 := hide (OwnCh.lower (OwnCh.whole ((unhide HS).kept (unhide K8) (fun b hb1 hb2 e => by omega))) (show w.heap.size ≤ _ by omega))
    go_wp2
    have hq8 := (unhide HB8).at (g := w.heap.size + 1) (vs := [.int .i64 A.wd, .int .i64 A.hg, .slice (some ⟨g1, 0, none⟩) A.D.length k1, .slice (some ⟨g2, 0, none⟩) A.F.length k2, .int .i64 A.ed]) (by simp)
    have q0 := hq8.cell (i := 0) rfl
    have q1 := hq8.cell (i := 1) rfl
    have q2 := hq8.cell (i := 2) rfl
    have q3 := hq8.cell (i := 3) rfl
    have q4 := hq8.cell (i := 4) rfl
    refine bodyPost_ret (v := .tuple #[.agg #[.int .i64 A.wd, .int .i64 A.hg, .slice (some ⟨g1, 0, none⟩) A.D.length k1, .slice (some ⟨g2, 0, none⟩) A.F.length k2, .int .i64 A.ed], .slice (some ⟨gL, 0, none⟩) 0 0]) (by simp [results, Try.results31, go_sem, q0, q1, q2, q3, q4]) rfl ⟨_, _, _, _, _, _, _, rfl, unhide HS8, ?_, (unhide HB8).below⟩
    exact ⟨_, 0, rfl, Nat.le_refl _, Nat.zero_le _, fun h => absurd rfl h⟩
  have hmk := run_make_row' (P := Try.prog) 109 4 (.bool false) 1 Try.underlying109 Try.infoBoolC rfl .i64 .i64 L.length (by omega) (by omega)
  have AY := Below.alloc1 Y (.cells (madeCells #[.bool false] L.length) 4)
  have OD := ownV_alloc Y (madeCells #[.bool false] L.length) 4
  rw [bools_madeC] at OD
  obtain ⟨gD, egD⟩ : ∃ z, z = Y.heap.size := ⟨_, rfl⟩
  have HC0 : Hid (Cat w (Y.alloc (.cells (madeCells #[.bool false] L.length) 4)) gL gD c (some ⟨g1, 0, none⟩) k1 (some ⟨g2, 0, none⟩) k2 (w.heap.size + 1 + 1) gL (List.replicate L.length false)) :=
    ⟨by rw [egD]; exact ((unhide HBX).step AY).push OD (by omega), (unhide HSX).below AY, Or.inl (Nat.le_refl _), Nat.le_refl _, by omega, hgLw, hsD, hsF⟩
  have HRW0 := hide (ownsRow_below (unhide HR0) AY)
  have HT0 : Hid ((A, und) = catchN L L.length c (undL (List.replicate L.length false))) := by
    show _ = _
    rw [unhide EA, und_start]
    unfold catch6
    rw [if_neg hn]
  have hu0 : (undL (List.replicate L.length false)).length = L.length := by rw [und_start]; simp
  have HU0 := hide hu0
  clear hu0 AY OD HBX HSX HR0 EA
  have hni : ¬ (60 : Int) < L.length := by omega
  go_upto_region 6 with (fail)
  rw [← egD]
  obtain ⟨Z, eZ⟩ : ∃ z, z = Y.alloc (.cells (madeCells #[.bool false] L.length) 4) := ⟨_, rfl⟩
  have hZs : gD < Z.heap.size := by rw [eZ, World.size_alloc]; omega
  rw [← eZ] at HC0 HRW0 ⊢
  clear eZ egD hmk
  go_wp2
  go_loopg [8] (L.length + 1) (fun g av wr => ∃ (d : Ch) (da : Option Addr) (dk : Nat) (fa : Option Addr) (fk Bc Uc : Nat) (B : List Bool) (f : Nat) (ag : Bool), av = .bool ag ∧ g = (undL B).length + (if ag = true then 1 else 0) ∧ B.length ≤ L.length ∧ L.length ≤ B.length ∧ (undL B).length ≤ f ∧ Hid ((A, und) = catchN L f d (undL B)) ∧ Hid (ag = false → (undL B).find? (okAt d L) = none) ∧ Hid (Cat w wr gL gD d da dk fa fk Bc Uc B) ∧ Hid (wr.ownsRow gL 3 1 (.slice (some ⟨gL, 0, none⟩) 0 0) 0 (ints [])))
  case atStart => exact ⟨c, _, _, _, _, _, _, _, L.length, true, rfl, by rw [unhide HU0]; rfl, by simp, by simp, by rw [unhide HU0]; exact Nat.le_refl _, HT0, (fun h => by cases h), HC0, HRW0⟩
  case round =>
    clear HT0 HU0 HC0 HRW0 hZs
    obtain ⟨d, da, dk, fa, fk, Bc, Uc, B, f, ag, rfl, hgk, hB1, hB2, hUf, HT, HNF, HC, HRW⟩ := hrel
    have HGK := hide hgk
    clear hgk
    cases ag with
    | false =>
      have hE := (unhide HT).trans (catch_none (unhide HNF rfl) f)
      simp only [Prod.mk.injEq] at hE
      obtain ⟨rfl, rfl⟩ := hE
      clear HT HNF HGK
      have hld := (unhide HC).ld
      have hla := (unhide HC).ll
      have hfar := (unhide HC).far
      have hlo := (unhide HC).lo
      have hUc := (unhide HC).own.sizes.2
      have hdw : gD < wr.heap.size := ((unhide HC).hb.at (g := gD) (vs := B.map Value.bool) (by simp)).lt
      go_wp2
      generalize wr = wo at *
      go_loopg [6, 12] L.length (fun g ov iv wr => ∃ (i gl cap : Nat), i ≤ L.length ∧ g = L.length - i ∧ iv = .int .i64 (i : Int) ∧ ov = .slice (some ⟨gl, 0, none⟩) (lowL B i).length cap ∧ Hid (wr.ownsRow gL 3 1 (.slice (some ⟨gl, 0, none⟩) (lowL B i).length cap) (lowL B i).length (ints (lowL B i))) ∧ (gl = gL ∨ wo.heap.size ≤ gl) ∧ Hid (Cat w wr gL gD A da dk fa fk Bc Uc B) ∧ wo.heap.size ≤ wr.heap.size)
      case atStart => exact ⟨0, gL, 0, Nat.zero_le _, rfl, rfl, rfl, HRW, Or.inl rfl, HC, Nat.le_refl _⟩
      case round =>
        clear HRW HC
        obtain ⟨i, gl, cap, hi, rfl, rfl, rfl, HRW, hgl, HC, hww⟩ := hrel
        have hll3 := lowL_len B i
        by_cases hin : i < L.length
        case neg =>
          have hini : ¬ (i : Int) < L.length := by omega
          have hie : lowL B i = (undL B).map Int.ofNat := lowL_all (by omega) (by omega)
          obtain ⟨hr1, hr2, hr3, hr4⟩ := rowAll (unhide HRW)
          have HIE := hide hie
          have HRO := hide hr4
          have HB := hide ((unhide HC).hb.less (L' := [(w.heap.size, [.int .i64 A.wd, .int .i64 A.hg, .slice da A.D.length dk, .slice fa A.F.length fk, .int .i64 A.ed]), (w.heap.size + 1, [.int .i64 0, .int .i64 0, .slice none 0 0, .slice none 0 0, .int .i64 0])]) (by simp))
          have HS := hide (unhide HC).own
          clear hie hr4 HRW HC
          have hq := (unhide HB).at (g := w.heap.size) (vs := [.int .i64 A.wd, .int .i64 A.hg, .slice da A.D.length dk, .slice fa A.F.length fk, .int .i64 A.ed]) (by simp)
          have c0 := hq.cell (i := 0) rfl
          have c1 := hq.cell (i := 1) rfl
          have c2 := hq.cell (i := 2) rfl
          have c3 := hq.cell (i := 3) rfl
          have c4 := hq.cell (i := 4) rfl
          clear hq
          have hq := (unhide HB).at (g := w.heap.size + 1) (vs := [.int .i64 0, .int .i64 0, .slice none 0 0, .slice none 0 0, .int .i64 0]) (by simp)
          have r0 := hq.cell (i := 0) rfl
          have r1 := hq.cell (i := 1) rfl
          have r2 := hq.cell (i := 2) rfl
          have r3 := hq.cell (i := 3) rfl
          have r4 := hq.cell (i := 4) rfl
          clear hq
          have rf := ((unhide HB).at (g := w.heap.size + 1) (vs := [.int .i64 0, .int .i64 0, .slice none 0 0, .slice none 0 0, .int .i64 0]) (by simp)).frozen
          have hx1 : ¬ w.heap.size = w.heap.size + 1 := by omega
          have hx2 : ¬ w.heap.size + 1 = w.heap.size := by omega
          have K8 := hide (kept_five (Kept.refl (fun b => b = w.heap.size + 1) wr) rfl (.int .i64 A.wd) (.int .i64 A.hg) (.slice da A.D.length dk) (.slice fa A.F.length fk) (.int .i64 A.ed))
          have HB8 := hide (blks_five ((unhide HB).less (L' := []) (by simp)) ((unhide HB).at (g := w.heap.size + 1) (vs := [.int .i64 0, .int .i64 0, .slice none 0 0, .slice none 0 0, .int .i64 0]) (by simp)) (by omega) (by intro p hp; simp at hp) (.int .i64 A.wd) (.int .i64 A.hg) (.slice da A.D.length dk) (.slice fa A.F.length fk) (.int .i64 A.ed))
          have HS8 := hide (OwnCh.lower (OwnCh.whole ((unhide HS).kept (unhide K8) (fun b hb1 hb2 e => by omega))) (show w.heap.size ≤ _ by omega))
          go_wp2
          have hq8 := (unhide HB8).at (g := w.heap.size + 1) (vs := [.int .i64 A.wd, .int .i64 A.hg, .slice da A.D.length dk, .slice fa A.F.length fk, .int .i64 A.ed]) (by simp)
          have q0 := hq8.cell (i := 0) rfl
          have q1 := hq8.cell (i := 1) rfl
          have q2 := hq8.cell (i := 2) rfl
          have q3 := hq8.cell (i := 3) rfl
          have q4 := hq8.cell (i := 4) rfl
          refine bodyPost_ret (v := .tuple #[.agg #[.int .i64 A.wd, .int .i64 A.hg, .slice da A.D.length dk, .slice fa A.F.length fk, .int .i64 A.ed], .slice (some ⟨gl, 0, none⟩) (lowL B i).length cap]) (by simp [results, Try.results31, go_sem, q0, q1, q2, q3, q4]) rfl ⟨_, _, _, _, _, _, _, rfl, unhide HS8, ?_, (unhide HB8).below⟩
          rw [← unhide HIE]
          exact ⟨_, cap, rfl, hr1, hr2, fun _ => ⟨gl, rfl, by omega, (unhide HRO).kept (unhide K8) (fun e => by have e' : gl = w.heap.size + 1 := e; omega)⟩⟩
        have hini : (i : Int) < L.length := by omega
        have hbi := ((unhide HC).hb.at (g := gD) (vs := B.map Value.bool) (by simp))
        have cb := hbi.cell (i := i) (map_get (E := Value.bool) B (by omega))
        obtain ⟨bi, ebi⟩ : ∃ z, z = B.getD i default := ⟨_, rfl⟩
        rw [← ebi] at cb
        have EBI : Hid (B.getD i false = bi) := ebi.symm
        clear hbi ebi
        cases bi with
        | true =>
          have HLY := hide (lowL_yes (unhide EBI))
          go_wp2
          go_roundg (L.length - (i + 1))
          case measure => omega
          case rel => exact ⟨i + 1, gl, cap, by omega, rfl, by go_num, by rw [unhide HLY], by rw [unhide HLY]; exact unhide HRW, hgl, HC, hww⟩
        | false =>
        have HLN := hide (lowL_no (unhide EBI))
        have AL := Below.alloc1 wr (.cells #[.int .i64 (i : Int)] 3)
        have HR2 := hide (ownsRow_below (unhide HRW) AL)
        have HC2 := hide ((unhide HC).step AL)
        clear AL
        go_wp2_with (at_builtin; (refine wpList_append_lies _ rfl _ _ 24 rfl gL 3 ii _ 1 8 Try.underlying24 hii hi0 hi1 hi2 rfl (by decide) (.slice (some ⟨gl, 0, none⟩) (lowL B i).length cap) (lowL B i).length (ints (lowL B i)) rfl (unhide HR2) ⟨wr.heap.size, 0, none⟩ 1 1 [.int .i64 (i : Int)] rfl rfl (cell_one_new _ _ _) (by simp [Value.oneCell']) (by omega) (by unfold maxLen; omega) (by omega) (by simp; omega) _ rfl ?_; intro g4 cap4 wa hown hgrow hat hlt4; have HOW := hide hown; have HKG : Hid (Kept (fun b => b = gl) (wr.alloc (.cells #[.int .i64 (i : Int)] 3)) wa) := ⟨hgrow.os, hgrow.tape, hgrow.output, hgrow.size, fun k hk hn => hgrow.block k hk (fun e => hn (by simpa [Value.ownBlock] using e))⟩; have HAT : Hid (g4 = gl ∨ wo.heap.size ≤ g4) := (by rcases hat with e | e; exact Or.inl (by simpa [Value.ownBlock] using e.symm); right; rw [e, World.size_alloc]; omega); clear hown hgrow hat))
        have HCa := hide ((unhide HC2).kept2 (unhide HKG) (fun b e => by have e' : b = gl := e; omega))
        have hza := (unhide HKG).size
        rw [World.size_alloc] at hza
        go_roundg (L.length - (i + 1))
        case measure => omega
        case rel => exact ⟨i + 1, g4, cap4, by omega, rfl, by go_num, by rw [unhide HLN, List.length_append]; rfl, by rw [unhide HLN, ints_snocC, List.length_append]; exact unhide HOW, by have := unhide HAT; omega, HCa, by omega⟩
    | true =>
    obtain ⟨nU, enU⟩ : ∃ z, z = (undL B).length := ⟨_, rfl⟩
    have HG2 : Hid (gk = nU + 1) := by have := unhide HGK; simp only [if_true] at this; rw [← enU] at this; exact this
    have HU1 : Hid ((undL B).length + (if false = true then 1 else 0) ≤ nU) := by show _ ≤ _; rw [← enU]; simp
    clear HGK enU HNF
    go_wp2
    generalize wr = wo at *
    go_loopg [8, 9] L.length (fun g av iv wr => ∃ (i : Nat) (d : Ch) (da : Option Addr) (dk : Nat) (fa : Option Addr) (fk Bc Uc : Nat) (B : List Bool) (f : Nat) (ag : Bool), i ≤ L.length ∧ g = L.length - i ∧ iv = .int .i64 (i : Int) ∧ av = .bool ag ∧ B.length ≤ L.length ∧ L.length ≤ B.length ∧ (undL B).length ≤ f ∧ Hid ((A, und) = catchN L f d (undL B)) ∧ Hid (ag = false → ∀ r, r < i → B.getD r false = false → okAt d L r = false) ∧ Hid ((undL B).length + (if ag = true then 1 else 0) ≤ nU) ∧ Hid (Cat w wr gL gD d da dk fa fk Bc Uc B) ∧ Hid (wr.ownsRow gL 3 1 (.slice (some ⟨gL, 0, none⟩) 0 0) 0 (ints [])))
    case atStart => exact ⟨0, d, da, dk, fa, fk, Bc, Uc, B, f, false, Nat.zero_le _, rfl, rfl, rfl, hB1, hB2, hUf, HT, fun _ r hr => by omega, HU1, HC, HRW⟩
    case round =>
      clear HT HU1 HC HRW hUf hB1 hB2 d da dk fa fk Bc Uc B f
      obtain ⟨i, d, da, dk, fa, fk, Bc, Uc, B, f, ag, hi, rfl, rfl, rfl, hB1, hB2, hUf, HT, HNO, HU, HC, HRW⟩ := hrel
      cases ag with
      | true =>
        by_cases hin : i < L.length
        · have hini : (i : Int) < L.length := by omega
          go_wp2
          go_roundg ((undL B).length + (if true = true then 1 else 0))
          case measure => have h8 := unhide HG2; have h9 : (undL B).length + 1 ≤ nU := unhide HU; show (undL B).length + 1 < gk; omega
          case rel => exact ⟨d, da, dk, fa, fk, Bc, Uc, B, f, true, rfl, rfl, hB1, hB2, hUf, HT, (fun h => by cases h), HC, HRW⟩
        · have hini : ¬ (i : Int) < L.length := by omega
          go_wp2
          go_roundg ((undL B).length + (if true = true then 1 else 0))
          case measure => have h8 := unhide HG2; have h9 : (undL B).length + 1 ≤ nU := unhide HU; show (undL B).length + 1 < gk; omega
          case rel => exact ⟨d, da, dk, fa, fk, Bc, Uc, B, f, true, rfl, rfl, hB1, hB2, hUf, HT, (fun h => by cases h), HC, HRW⟩
      | false =>
      by_cases hin : i < L.length
      case neg =>
        have hini : ¬ (i : Int) < L.length := by omega
        have HNF : Hid ((undL B).find? (okAt d L) = none) := und_none (fun r hr hb => unhide HNO rfl r (by omega) hb)
        go_wp2
        go_roundg ((undL B).length + (if false = true then 1 else 0))
        case measure => have h8 := unhide HG2; have h9 : (undL B).length + 0 ≤ nU := unhide HU; show (undL B).length + 0 < gk; omega
        case rel => exact ⟨d, da, dk, fa, fk, Bc, Uc, B, f, false, rfl, rfl, hB1, hB2, hUf, HT, (fun _ => unhide HNF), HC, HRW⟩
      have hini : (i : Int) < L.length := by omega
      have HNQ : Hid (∀ r, r < i → B.getD r false = false → okAt d L r = false) := fun r hr hb => unhide HNO rfl r hr hb
      clear HNO
      have HUq : Hid ((undL B).length ≤ nU) := unhide HU
      clear HU
      have hbi := ((unhide HC).hb.at (g := gD) (vs := B.map Value.bool) (by simp))
      have cb := hbi.cell (i := i) (map_get (E := Value.bool) B (by omega))
      have fb := hbi.frozen
      obtain ⟨bi, ebi⟩ : ∃ z, z = B.getD i default := ⟨_, rfl⟩
      rw [← ebi] at cb
      have EBI : Hid (B.getD i false = bi) := ebi.symm
      clear hbi ebi
      cases bi with
      | true =>
        go_wp2
        go_roundg (L.length - (i + 1))
        case measure => omega
        case rel => exact ⟨i + 1, d, da, dk, fa, fk, Bc, Uc, B, f, false, by omega, rfl, by go_num, rfl, hB1, hB2, hUf, HT, (fun _ r hr hb => by
          by_cases e : r = i
          · rw [e, unhide EBI] at hb; cases hb
          · exact unhide HNQ r (by omega) hb), unhide HUq, HC, HRW⟩
      | false =>
      obtain ⟨lao', lc', eL', -, -, hlc⟩ := (unhide HL).below (unhide HC).hb.below
      simp only [Value.slice.injEq] at eL'
      obtain ⟨rfl, -, rfl⟩ := eL'
      obtain ⟨lb, lo, na, nc, ela, cu0, cu1, hru⟩ := hlc i hin
      subst ela
      have hsi := hsL i hin
      obtain ⟨⟨ue, un⟩, eu⟩ : ∃ z, z = L.getD i default := ⟨_, rfl⟩
      rw [← eu] at cu0 cu1 hru hsi
      dsimp only at cu0 cu1 hru hsi
      have HRU := hide hru
      obtain ⟨⟨d', code⟩, ez⟩ : ∃ z, z = applyOf d (ue, un) := ⟨_, rfl⟩
      have HSP := hide fun V h1 h2 h3 => specApply6_any d ue un da d.D.length dk fa d.F.length fk na un.length nc V h1 h2 h3 (unhide HC).sd (unhide HC).sf hsi
      simp only [← ez] at HSP
      unfold vChart vUpdate at HSP
      have hbd := applyOf_bd d (ue, un) (unhide HC).sd (unhide HC).sf
      rw [← ez] at hbd
      obtain ⟨hbd1, hbd2⟩ := hbd
      try dsimp only at hbd1 hbd2
      have HOK : Hid (okAt d L i = decide (code = 0)) := by show _ = _; unfold okAt; rw [← eu, ← ez]
      have HAP : Hid ((applyOf d (L.getD i default)).1 = d') := by show _ = _; rw [← eu, ← ez]
      clear eu ez hlc hru
      have hq := ((unhide HC).hb.at (g := w.heap.size) (vs := [.int .i64 d.wd, .int .i64 d.hg, .slice da d.D.length dk, .slice fa d.F.length fk, .int .i64 d.ed]) (by simp))
      have c0 := hq.cell (i := 0) rfl
      have c1 := hq.cell (i := 1) rfl
      have c2 := hq.cell (i := 2) rfl
      have c3 := hq.cell (i := 3) rfl
      have c4 := hq.cell (i := 4) rfl
      have hcl := hq.lt
      have hdl : gD < wr.heap.size := ((unhide HC).hb.at (g := gD) (vs := B.map Value.bool) (by simp)).lt
      have hul := lt_of_cell cu0
      simp only at hul
      have hld := (unhide HC).ld
      have hUc0 := (unhide HC).own.sizes.2
      have hll2 := (unhide HC).ll
      clear hq
      have m1 : ¬ wr.heap.size = w.heap.size := by omega
      have m1' : ¬ w.heap.size = wr.heap.size := by omega
      have m2 : ¬ wr.heap.size = lb := by omega
      have m2' : ¬ lb = wr.heap.size := by omega
      go_wp2_with fail
      go_cut [10, 11] (fun sl sb wx => ∃ (gn : Nat) (qa : Option Addr) (qk : Nat) (qb : Option Addr) (ql Bn Un : Nat), sl = .pointer (some ⟨gn, 0, none⟩) ∧ sb = .int .i64 code ∧ Hid (Cat w wx gL gD d da dk fa fk Bc Uc B) ∧ Hid (OwnV wx gn [.int .i64 d'.wd, .int .i64 d'.hg, .slice qa d'.D.length qk, .slice qb d'.F.length ql, .int .i64 d'.ed]) ∧ Hid (OwnCh Bn Un wx qa qk qb ql d'.D d'.F (recCells 5 eFeature d'.F)) ∧ gD < Bn ∧ gD < gn ∧ Hid (wx.ownsRow gL 3 1 (.slice (some ⟨gL, 0, none⟩) 0 0) 0 (ints [])))
      case first =>
        go_region_held3 (fun z => z.cell? ⟨w.heap.size, 0, none⟩ = some (.int .i64 d.wd) ∧ z.cell? ⟨w.heap.size, 1, none⟩ = some (.int .i64 d.hg) ∧ z.cell? ⟨w.heap.size, 2, none⟩ = some (.slice da d.D.length dk) ∧ z.cell? ⟨w.heap.size, 3, none⟩ = some (.slice fa d.F.length fk) ∧ z.cell? ⟨w.heap.size, 4, none⟩ = some (.int .i64 d.ed) ∧ z.cell? ⟨lb, lo + i * 2, none⟩ = some (.int .i64 ue) ∧ z.cell? ⟨lb, lo + i * 2 + 1, none⟩ = some (.slice na un.length nc)) (go_keep) (first
          | (go_at_call 22; refine (unhide HSP _ (by first | exact ((unhide HC).own).ints | exact ((unhide HC).own.below (Below.refl _ _).drew).ints | exact ((unhide HC).own.below (Below.alloc1 _ _)).ints | exact ((unhide HC).own.below (Below.alloc1 _ _).drew).ints) (by first | exact ((unhide HC).own).feats | exact ((unhide HC).own.below (Below.refl _ _).drew).feats | exact ((unhide HC).own.below (Below.alloc1 _ _)).feats | exact ((unhide HC).own.below (Below.alloc1 _ _).drew).feats) (by first | exact ((unhide HRU)) | exact ((unhide HRU).below (Below.refl _ _).drew) | exact ((unhide HRU).below (Below.alloc1 _ _)) | exact ((unhide HRU).below (Below.alloc1 _ _).drew))).mono ?_; rintro e wc' ⟨qa, qk, qb, ql, rfl, hoc, hb⟩; (first | (have HC' := hide ((unhide HC).step hb); have HRW' := hide (ownsRow_below (unhide HRW) hb); have cu0' := wcell3 cu0 hb; have cu1' := wcell3 cu1 hb) | (have HC' := hide ((unhide HC).step (below_undrewA hb)); have HRW' := hide (ownsRow_below (unhide HRW) (below_undrewA hb)); have cu0' := wcell3 cu0 (below_undrewA hb); have cu1' := wcell3 cu1 (below_undrewA hb)) | (have HC' := hide ((unhide HC).step (Below.step (Below.alloc1 _ _) hb)); have HRW' := hide (ownsRow_below (unhide HRW) (Below.step (Below.alloc1 _ _) hb)); have cu0' := wcell3 cu0 (Below.step (Below.alloc1 _ _) hb); have cu1' := wcell3 cu1 (Below.step (Below.alloc1 _ _) hb); have HNW := hide (OwnV.step (ownV_alloc _ _ _) hb)) | (have HC' := hide ((unhide HC).step (Below.step (Below.alloc1 _ _) (below_undrewA hb))); have HRW' := hide (ownsRow_below (unhide HRW) (Below.step (Below.alloc1 _ _) (below_undrewA hb))); have cu0' := wcell3 cu0 (Below.step (Below.alloc1 _ _) (below_undrewA hb)); have cu1' := wcell3 cu1 (Below.step (Below.alloc1 _ _) (below_undrewA hb)); have HNW := hide (OwnV.step (OwnV.drew (ownV_alloc _ _ _)) hb))); replace HC := HC'; clear HC'; replace HRW := HRW'; clear HRW'; have HS9 := hide hoc; have hqn := ((unhide HC).hb.at (g := w.heap.size) (vs := [.int .i64 d.wd, .int .i64 d.hg, .slice da d.D.length dk, .slice fa d.F.length fk, .int .i64 d.ed]) (by simp)); have e0 := hqn.cell (i := 0) rfl; have e1 := hqn.cell (i := 1) rfl; have e2 := hqn.cell (i := 2) rfl; have e3 := hqn.cell (i := 3) rfl; have e4 := hqn.cell (i := 4) rfl; have hcl9 := hqn.lt; have hul9 := lt_of_cell cu0'; simp only at hul9; have hdl9 : gD < wc'.heap.size := ((unhide HC).hb.at (g := gD) (vs := B.map Value.bool) (by simp)).lt; have mm1 : ¬ wc'.heap.size = w.heap.size := (by omega); have mm2 : ¬ wc'.heap.size = lb := (by omega); have mm3 : ¬ w.heap.size = wc'.heap.size := (by omega); have mm4 : ¬ lb = wc'.heap.size := (by omega); (try (have n0 := (unhide HNW).cell (i := 0) rfl; have n1 := (unhide HNW).cell (i := 1) rfl; have n2 := (unhide HNW).cell (i := 2) rfl; have n3 := (unhide HNW).cell (i := 3) rfl; have n4 := (unhide HNW).cell (i := 4) rfl; have nf := (unhide HNW).frozen)); clear hb hoc hqn))
        all_goals
          go_wp2_with fail
          go_meet
          first
            | (have HN9 := unhide HNW
               have hk9 := kept_five (Kept.refl (fun b => b = wr.heap.size) wc') rfl (.int .i64 d'.wd) (.int .i64 d'.hg) (.slice qa d'.D.length qk) (.slice qb d'.F.length ql) (.int .i64 d'.ed)
               refine ⟨_, _, _, _, _, _, _, rfl, rfl, (unhide HC).kept hk9 (fun b e => ?_), own_five HN9 _ _ _ _ _, (unhide HS9).kept hk9 (fun b hb1 hb2 e => ?_), ?_, ?_, ownsRow_kept5 (unhide HRW) hk9 ?_⟩
               · have e' : b = wr.heap.size := e
                 omega
               · have e' : b = wr.heap.size := e
                 have h9 : (World.alloc wr _).heap.size ≤ b := hb1
                 rw [World.size_alloc] at h9
                 omega
               · show gD < (World.alloc wr _).heap.size
                 rw [World.size_alloc]
                 omega
               · exact hdl
               · exact fun e => by have e' : gL = wr.heap.size := e; omega)
            | (exact ⟨_, _, _, _, _, _, _, rfl, rfl, (unhide HC).step (Below.alloc1 _ _), ownV_alloc _ _ _, (unhide HS9).below (Below.alloc1 _ _), by first | omega | exact hdl | (rw [World.size_alloc]; omega), by omega, ownsRow_below (unhide HRW) (Below.alloc1 _ _)⟩)
      case rest =>
      obtain ⟨gn, qa, qk, qb, ql, Bn, Un, rfl, rfl, HC', HNX, HSN, hBn, hgn, HRW'⟩ := hcut
      clear HC HRW c0 c1 c2 c3 c4 cu0 cu1 HSP HRU m1 m1' m2 m2' cb fb
      have HC := HC'
      have HRW := HRW'
      clear HC' HRW'
      have hlb := (unhide HC).ld
      have hla := (unhide HC).ll
      by_cases hc0 : code = 0
      case neg =>
        have d4 : (code == 0) = false := by simp [hc0]
        go_wp2
        go_roundg (L.length - (i + 1))
        case measure => omega
        case rel => exact ⟨i + 1, d, da, dk, fa, fk, Bc, Uc, B, f, false, by omega, rfl, by go_num, rfl, hB1, hB2, hUf, HT, (fun _ r hr hb => by
          by_cases e : r = i
          · rw [e, unhide HOK, decide_eq_false hc0]
          · exact unhide HNQ r (by omega) hb), unhide HUq, HC, HRW⟩
      subst hc0
      have HFD := hide (und_first (c := d) (L := L) (B := B) (i := i) (by omega) (unhide HNQ) (unhide EBI) (by rw [unhide HOK]; rfl))
      obtain ⟨f', hf1, hf2, hf3⟩ := catch_some (unhide HFD) hUf
      rw [unhide HAP, ← und_set (by omega)] at hf1
      rw [← und_set (by omega)] at hf2 hf3
      have HTn : Hid ((A, und) = catchN L f' d' (undL (B.set i true))) := (unhide HT).trans hf1
      have HUn : Hid ((undL (B.set i true)).length + 1 ≤ nU) := by have := unhide HUq; show _ ≤ _; omega
      clear hf1 hf3 HFD HOK HNQ HUq HT
      have HCn := hide (((unhide HC).next (unhide HSN) hBn hbd1 hbd2).done (i := i) (by omega))
      have k5 := kept_five (Kept.refl (fun b => b = w.heap.size) wc) rfl (.int .i64 d'.wd) (.int .i64 d'.hg) (.slice qa d'.D.length qk) (.slice qb d'.F.length ql) (.int .i64 d'.ed)
      have HRn := hide (ownsRow_kept5 (ownsRow_kept5 (unhide HRW) k5 (fun e => by have e' : gL = w.heap.size := e; omega)) (Kept.setCell (T := fun b => b = gD) (Kept.refl _ _) (p := ⟨gD, i, none⟩) rfl (.bool true)) (fun e => by have e' : gL = gD := e; omega))
      clear k5
      have hq := ((unhide HC).hb.at (g := w.heap.size) (vs := [.int .i64 d.wd, .int .i64 d.hg, .slice da d.D.length dk, .slice fa d.F.length fk, .int .i64 d.ed]) (by simp))
      have c0 := hq.cell (i := 0) rfl
      have x0 := (unhide HNX).cell (i := 0) rfl
      have c1 := hq.cell (i := 1) rfl
      have x1 := (unhide HNX).cell (i := 1) rfl
      have c2 := hq.cell (i := 2) rfl
      have x2 := (unhide HNX).cell (i := 2) rfl
      have c3 := hq.cell (i := 3) rfl
      have x3 := (unhide HNX).cell (i := 3) rfl
      have c4 := hq.cell (i := 4) rfl
      have x4 := (unhide HNX).cell (i := 4) rfl
      have cf := hq.frozen
      have hbi := ((unhide HC).hb.at (g := gD) (vs := B.map Value.bool) (by simp))
      have cb := hbi.cell (i := i) (map_get (E := Value.bool) B (by omega))
      have fb := hbi.frozen
      clear hq hbi
      have ygnw : ¬ gn = w.heap.size := by omega
      have ygnw' : ¬ w.heap.size = gn := by omega
      have ygDw : ¬ gD = w.heap.size := by omega
      have ygDw' : ¬ w.heap.size = gD := by omega
      have ygng : ¬ gn = gD := by omega
      have ygng' : ¬ gD = gn := by omega
      go_wp2
      go_roundg (L.length - (i + 1))
      case measure => omega
      case rel => exact ⟨i + 1, d', qa, qk, qb, ql, Bn, Un, B.set i true, f', true, by omega, rfl, by go_num, rfl, by rw [List.length_set]; exact hB1, by rw [List.length_set]; exact hB2, hf2, HTn, (fun h => by cases h), unhide HUn, HCn, HRn⟩

end Go.Proofs.Ytmpicamenjnkkaa
