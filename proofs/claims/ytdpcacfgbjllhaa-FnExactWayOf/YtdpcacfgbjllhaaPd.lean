/- Laid together out of: HpF, HpG, HpH, HpI, SeE, SeH, DjM, CpK, CpInt, RpA. -/
import Derived.Test.YtdpcacfgbjllhaaPc
import Derived.Deep.RegionLaw
import Derived.Deep.AppendLies
import Derived.WideShapes
import Derived.Test.YtdpcacfgbjllhaaPb
import Derived.Test.YtdpcacfgbjllhaaPa
import Derived.Laws.CopyRow
import Derived.Laws.BitsAllLaws
import Derived.Deep.RegionHeld3

/- Contract of the frontier's Pop. -/
namespace Go.Proofs.Ytdpcacfgbjllhaa
open Go.RowKit

theorem rcTake (L : List I2) (m : Nat) (hm : m ≤ L.length) : (recCells 2 e2 L).take (m * 2) = recCells 2 e2 (L.take m) := by
  apply List.ext_getElem?
  intro q
  by_cases hq : q < m * 2
  · rw [List.getElem?_take, if_pos hq, rcAt L (by omega), rcAt _ (by rw [List.length_take]; omega)]
    have e : (L.take m).getD (q / 2) default = L.getD (q / 2) default := by
      rw [List.getD_eq_getElem?_getD, List.getElem?_take, if_pos (by omega), List.getD_eq_getElem?_getD]
    rw [e]
  · rw [List.getElem?_take, if_neg hq, List.getElem?_eq_none (by rw [recCells_length, List.length_take]; omega)]
theorem ownsRow_takeG {w : World} {base : Nat} {e : TypeId} {size g m n cap : Nat} {xs : List Value} (h : w.ownsRow base e size (.slice (some ⟨g, 0, none⟩) n cap) n xs) (hm : m ≤ n) :
    w.ownsRow base e size (.slice (some ⟨g, 0, none⟩) m cap) m (xs.take (m * size)) := by
  obtain ⟨h1, h2⟩ := h
  have hms : m * size ≤ n * size := Nat.mul_le_mul_right _ hm
  refine ⟨by rw [List.length_take]; omega, ?_⟩
  rcases h2 with ⟨hv, _⟩ | ⟨g', cap', cur, hv, hg, hh, hc, hmx, hs, ht⟩
  · cases hv
  · simp only [Value.slice.injEq, Option.some.injEq, Addr.mk.injEq, and_true, true_and] at hv
    obtain ⟨rfl, rfl⟩ := hv
    refine Or.inr ⟨g, cap, cur, rfl, hg, hh, by omega, hmx, hs, ?_⟩
    rw [← ht, List.take_take, Nat.min_eq_left hms]

set_option maxRecDepth 10000 in
set_option maxHeartbeats 8000000 in
theorem frPop_any (B gf g n cap : Nat) (L : List Rc) (w : World) (h : Fr w B gf g (n + 1) cap L) (hn : n ≤ 1000000) (hc1 : n + 1 ≤ cap) :
    Calls Try.prog 86 #[.pointer (some ⟨gf, 0, none⟩)] w fun e w' => e = .returned (.iface 64 (.agg #[.int .i64 (L.getD n (0, 0)).1, .int .i64 (L.getD n (0, 0)).2])) ∧ Fr w' B gf g n cap (L.take n) ∧ Kept (fun b => b = gf) w w' := by
  obtain ⟨-, hO⟩ := ownsRow_ownG h.row
  have hl := h.len
  have HLn : Hid (n = (L.take n).length) := by show _ = _; rw [List.length_take]; omega
  have ha0 := hO.cell (i := n * 2) (v := .int .i64 (L.getD n (0, 0)).1) (by rw [rcAt L (by omega), show n * 2 / 2 = n by omega, show n * 2 % 2 = 0 by omega]; rfl)
  have ha1 := hO.cell (i := n * 2 + 1) (v := .int .i64 (L.getD n (0, 0)).2) (by rw [rcAt L (by omega), show (n * 2 + 1) / 2 = n by omega, show (n * 2 + 1) % 2 = 1 by omega]; rfl)
  generalize (L.getD n (0, 0)).1 = x at *
  generalize (L.getD n (0, 0)).2 = y at *
  have c0 := h.box.cell (i := 0) rfl
  have fz := h.box.frozen
  have hlt := h.box.lt
  have hlg := hO.lt
  have hne := h.ne
  have A := Below.alloc1 w (.cells #[.int .i64 x, .int .i64 y] 64)
  have HR := hide (rcTake L n (by omega) ▸ ownsRow_takeG h.row (show n ≤ n + 1 by omega))
  have HB := hide h.box
  have HA := hide A
  have i1 : IntKind.i64.wrap (((n : Int) + 1) - 1) = (n : Int) := by rw [IntKind.wrap_i64]; omega
  have i2 : IntKind.i64.wrap (((n + 1 : Nat) : Int) - 1) = (n : Int) := by rw [IntKind.wrap_i64]; omega
  have c0' := (A.cell (lt_of_cell c0)).trans c0
  clear h hO hl A
  go_enter Try.func86, Try.ntmps86
  go_wp2
  go_ret
  refine ⟨rfl, ⟨((unhide HB).set 0 (.slice (some ⟨g, 0, none⟩) n cap) (by simp)).alloc _, ?_, unhide HLn, hne⟩, ?_⟩
  · refine ownsRow_below (ownsRow_setCell_other (unhide HR) (a := ⟨gf, 0, none⟩) ?_ _) (Below.alloc1 _ _)
    simp only [Value.ownBlock, ne_eq, Option.some.injEq]
    exact fun e => hne e.symm
  · exact ((Kept.refl (fun b => b = gf) w).setCell (p := ⟨gf, 0, none⟩) rfl _).trans (kept_of_below (Below.alloc1 _ _))

end Go.Proofs.Ytdpcacfgbjllhaa

/- Contract of container/heap's Pop over the program's frontier. -/
namespace Go.Proofs.Ytdpcacfgbjllhaa
open Go.RowKit

theorem lenR_any (ao : Option Addr) (n cap : Nat) (w : World) : Calls Try.prog 33 #[.slice ao n cap] w fun e w' => e = .returned (.int .i64 (n : Int)) ∧ w = w' := by
  go_enter Try.func33, Try.ntmps33
  go_wp2
  go_ret
  exact ⟨rfl, rfl⟩
theorem take_mem {L : List Rc} {n : Nat} (hl : n + 1 = L.length) (x : Rc) : x ∈ L ↔ x ∈ L.take n ∨ x = L.getD n (0, 0) := by
  have e : L = L.take n ++ [L.getD n (0, 0)] := by
    apply List.ext_getElem?
    intro r
    by_cases h : r < n
    · rw [List.getElem?_append_left (by rw [List.length_take]; omega), List.getElem?_take, if_pos h]
    · by_cases h2 : r = n
      · subst h2
        rw [List.getElem?_append_right (by rw [List.length_take]; omega), List.length_take, show r - min r L.length = 0 by omega, getD_lt (show r < L.length by omega), List.getElem?_eq_getElem (show r < L.length by omega)]
        rfl
      · rw [List.getElem?_eq_none (by omega), List.getElem?_eq_none (by rw [List.length_append, List.length_take]; simp; omega)]
  constructor
  · intro h
    rw [e] at h
    rcases List.mem_append.1 h with h | h
    · exact Or.inl h
    · exact Or.inr (by simpa using h)
  · intro h
    rw [e]
    rcases h with h | h
    · exact List.mem_append.2 (Or.inl h)
    · exact List.mem_append.2 (Or.inr (by simp [h]))
theorem Hp.take {L : List Rc} {n : Nat} (h : Hp L n) : Hp (L.take n) n := by
  intro c h0 hc
  have e : ∀ k, k < n → (L.take n).getD k (0, 0) = L.getD k (0, 0) := fun k hk => by rw [List.getD_eq_getElem?_getD, List.getElem?_take, if_pos hk, List.getD_eq_getElem?_getD]
  rw [e c hc, e _ (by omega)]
  exact h c h0 hc

set_option maxRecDepth 10000 in
set_option maxHeartbeats 8000000 in
theorem heapPop_any (B gf g n cap : Nat) (L : List Rc) (w : World) (h : Fr w B gf g (n + 1) cap L) (hh : Hp L (n + 1)) (hn : n + 1 ≤ 1000000) (hc1 : n + 1 ≤ cap) :
    Calls Try.prog 59 #[.iface 57 (.pointer (some ⟨gf, 0, none⟩))] w fun e w' => e = .returned (.iface 64 (.agg #[.int .i64 (L.getD 0 (0, 0)).1, .int .i64 (L.getD 0 (0, 0)).2])) ∧ ∃ L', Hp L' n ∧ (∀ x, x ∈ L ↔ x ∈ L' ∨ x = L.getD 0 (0, 0)) ∧ Fr w' B gf g n cap L' ∧ Kept (fun b => b = g ∨ b = gf) w w' := by
  have hl := h.len
  have HF := hide h
  have HD := hide (hpDn_pop hh (by omega))
  have c0 := h.box.cell (i := 0) rfl
  have hM1 := methLen c0
  have hM2 := methSwap c0
  have HLE := hide (lenR_any (some ⟨g, 0, none⟩) (n + 1) cap w)
  have HSW := hide (swap_any B g (n + 1) cap L 0 n w h.row hl (by omega) (by omega))
  have HMS := hide (fun x => swp_mem (L := L) (i := 0) (j := n) (by omega) (by omega) x)
  have HA0 : Hid ((swp L 0 n).getD n (0, 0) = L.getD 0 (0, 0)) := by show _ = _; rw [swp_at (by omega) (by omega), if_pos rfl]
  have HLn := hide hl
  have i1 : IntKind.i64.wrap (((n : Int) + 1) - 1) = (n : Int) := by rw [IntKind.wrap_i64]; omega
  have i2 : IntKind.i64.wrap (((n + 1 : Nat) : Int) - 1) = (n : Int) := by rw [IntKind.wrap_i64]; omega
  clear h hh hl
  go_enter Try.func59, Try.ntmps59
  go_wp2_with fail
  refine (unhide HLE).mono ?_
  rintro e w1 ⟨rfl, h9⟩
  subst h9
  clear HLE hM1
  go_wp2_with fail
  refine (unhide HSW).mono ?_
  rintro e w2 ⟨rfl, hr, hk⟩
  have HF2 := hide ((unhide HF).swap hr hk)
  have HK2 := hide (hk.mono (T' := fun b => b = g ∨ b = gf) (fun b _ hb => Or.inl hb))
  clear hr hk hM2 c0 HSW HF
  have HDN := hide (down_any B gf g (n + 1) cap n (swp L 0 n) w2 (unhide HF2) (by omega) (unhide HD) (by omega))
  go_wp2_with fail
  refine (unhide HDN).mono ?_
  rintro e w3 ⟨bb, rfl, L2, hp2, hd2⟩
  have HP2 := hide hp2
  have HD2 := hide hd2
  clear hp2 hd2 HDN HF2 HD
  have hM3 := methPop w3 gf
  have HPP := hide (frPop_any B gf g n cap L2 w3 (unhide HD2).fr (by omega) hc1)
  have HE0 : Hid (L2.getD n (0, 0) = L.getD 0 (0, 0)) := ((unhide HD2).out n (Nat.le_refl _)).trans (unhide HA0)
  rw [unhide HE0] at HPP
  go_wp2_with fail
  refine (unhide HPP).mono ?_
  rintro e w4 ⟨rfl, hf4, hk4⟩
  have HF4 := hide hf4
  have HK4 := hide (((unhide HK2).trans ((unhide HD2).kept.mono (T' := fun b => b = g ∨ b = gf) (fun b _ hb => Or.inl hb))).trans (hk4.mono (T' := fun b => b = g ∨ b = gf) (fun b _ hb => Or.inr hb)))
  have HME : Hid (∀ x, x ∈ L ↔ x ∈ L2.take n ∨ x = L.getD 0 (0, 0)) := fun x => by
    rw [← unhide HE0, ← take_mem (unhide HD2).fr.len x, (unhide HD2).mem x, unhide HMS x]
  clear hf4 hk4 HPP hM3
  go_wp2
  go_ret
  exact ⟨rfl, L2.take n, (unhide HP2).take, unhide HME, unhide HF4, unhide HK4⟩

end Go.Proofs.Ytdpcacfgbjllhaa

/- Contract of the frontier's cheapest. -/
namespace Go.Proofs.Ytdpcacfgbjllhaa
open Go.RowKit

theorem Fr.other {W : World} {B gf g n cap : Nat} {L : List Rc} (h : Fr W B gf g n cap L) {b : Nat} (h1 : b ≠ gf) (h2 : b ≠ g) (i : Nat) (u : Value) : Fr (W.setCell ⟨b, i, none⟩ u) B gf g n cap L :=
  ⟨h.box.other (a := ⟨b, i, none⟩) (fun e => h1 e.symm) u, ownsRow_setCell_other h.row (a := ⟨b, i, none⟩) (by simp only [Value.ownBlock, ne_eq, Option.some.injEq]; exact fun e => h2 e.symm) u, h.len, h.ne⟩
theorem Kept.fresh {T : Nat → Prop} {w w' : World} (h : Kept T w w') {b : Nat} (hb : w.heap.size ≤ b) (i : Nat) (u : Value) : Kept T w (w'.setCell ⟨b, i, none⟩ u) :=
  ⟨h.os, h.tape, h.output, by rw [Go.Deep.nblk_setCell]; exact h.size, fun k hk hn => by rw [Go.Deep.blk_setCell_other w' ⟨b, i, none⟩ u k (by show k ≠ b; omega)]; exact h.block k hk hn⟩

set_option maxRecDepth 100000 in
theorem assertReach (v : Value) (W : World) : (Instr.typeAssert (.iface 64 v) 20 64 false).run Try.prog W = .ok v W := by
  first | kernel_rfl | simp [Instr.typeAssert, go_sem]

set_option maxRecDepth 10000 in
set_option maxHeartbeats 8000000 in
theorem frCheapest_any (B gf g n cap : Nat) (L : List Rc) (w : World) (h : Fr w B gf g (n + 1) cap L) (hh : Hp L (n + 1)) (hn : n + 1 ≤ 1000000) (hc1 : n + 1 ≤ cap) :
    Calls Try.prog 34 #[.pointer (some ⟨gf, 0, none⟩)] w fun e w' => e = .returned (.agg #[.int .i64 (L.getD 0 (0, 0)).1, .int .i64 (L.getD 0 (0, 0)).2]) ∧ ∃ L', Hp L' n ∧ (∀ x, x ∈ L ↔ x ∈ L' ∨ x = L.getD 0 (0, 0)) ∧ Fr w' B gf g n cap L' ∧ Kept (fun b => b = g ∨ b = gf) w w' := by
  have A := Below.alloc1 w (.cells #[.int .i64 0, .int .i64 0] 64)
  have O := ownV_alloc w #[.int .i64 0, .int .i64 0] 64
  have hlt := h.lt
  have HP := hide (heapPop_any B gf g n cap L _ (h.bd ⟨A, Nat.le_refl _⟩) hh hn hc1)
  have HA := hide A
  have HO := hide O
  obtain ⟨hl1, hl2⟩ := hlt
  clear h hh A O
  generalize (L.getD 0 (0, 0)) = z at *
  obtain ⟨x, y⟩ := z
  dsimp only at *
  go_enter Try.func34, Try.ntmps34
  go_wp2_with fail
  refine (unhide HP).mono ?_
  rintro e w1 ⟨rfl, L', hp, hmem, hf, hk⟩
  have HO1 := hide ((unhide HO).kept hk (by omega))
  have a0 := (unhide HO1).cell (i := 0) rfl
  have a1 := (unhide HO1).cell (i := 1) rfl
  have fz := (unhide HO1).frozen
  have HH := hide hp
  have HM := hide hmem
  have HF := hide hf
  have HK := hide ((kept_of_below (T := fun b => b = g ∨ b = gf) (unhide HA)).trans hk)
  clear hp hmem hf hk HP
  have hTA := assertReach (.agg #[.int .i64 x, .int .i64 y]) w1
  have HO2 := hide (((unhide HO1).set 0 (.int .i64 x) (by simp)).set 1 (.int .i64 y) (by simp))
  have k0 := (unhide HO2).cell (i := 0) rfl
  have k1 := (unhide HO2).cell (i := 1) rfl
  have HF2 := hide (((unhide HF).other (b := w.heap.size) (by omega) (by omega) 0 (.int .i64 x)).other (b := w.heap.size) (by omega) (by omega) 1 (.int .i64 y))
  have HK2 := hide (((unhide HK).fresh (b := w.heap.size) (Nat.le_refl _) 0 (.int .i64 x)).fresh (b := w.heap.size) (Nat.le_refl _) 1 (.int .i64 y))
  go_wp2
  refine bodyPost_ret (v := .agg #[.int .i64 x, .int .i64 y]) (by simp [results, Try.results34, go_sem, k0, k1]) rfl ⟨rfl, L', unhide HH, unhide HM, unhide HF2, unhide HK2⟩

end Go.Proofs.Ytdpcacfgbjllhaa

/- Contracts of the frontier's Push and of container/heap's Push over it. -/
namespace Go.Proofs.Ytdpcacfgbjllhaa
open Go.RowKit

/-- The frontier at block gf, with a row or with none yet. -/
structure FrN (W : World) (B gf : Nat) (sv : Value) (n : Nat) (L : List Rc) : Prop where
  box : OwnV W gf [sv]
  row : W.ownsRow B 64 2 sv n (recCells 2 e2 L)
  len : n = L.length
  lt : gf < B
theorem FrN.of {W : World} {B gf g n cap : Nat} {L : List Rc} (h : Fr W B gf g n cap L) (hB : gf < B) : FrN W B gf (.slice (some ⟨g, 0, none⟩) n cap) n L := ⟨h.box, h.row, h.len, hB⟩
theorem FrN.fr {W : World} {B gf g n cap : Nat} {L : List Rc} (h : FrN W B gf (.slice (some ⟨g, 0, none⟩) n cap) n L) : Fr W B gf g n cap L :=
  ⟨h.box, h.row, h.len, by have := (ownsRow_ownG h.row).1; have := h.lt; omega⟩
theorem FrN.sl {W : World} {B gf n : Nat} {sv : Value} {L : List Rc} (h : FrN W B gf sv n L) : ∃ a cap, sv = .slice a n cap ∧ n ≤ cap := by
  rcases h.row.2 with ⟨hv, hn⟩ | ⟨g, cap, cur, hv, _, _, hc, _⟩
  · exact ⟨none, 0, by rw [hv, hn], by omega⟩
  · exact ⟨_, cap, hv, hc⟩
theorem FrN.got {W : World} {B gf n : Nat} {sv : Value} {L : List Rc} (h : FrN W B gf sv (n + 1) L) : ∃ g cap, sv = .slice (some ⟨g, 0, none⟩) (n + 1) cap ∧ n + 1 ≤ cap ∧ B ≤ g := by
  rcases h.row.2 with ⟨hv, hn⟩ | ⟨g, cap, cur, hv, hg, _, hc, _⟩
  · omega
  · exact ⟨g, cap, hv, hc, hg⟩
theorem FrN.own {W : World} {B gf n g : Nat} {sv : Value} {L : List Rc} (h : FrN W B gf sv n L) (hg : sv.ownBlock = some g) : B ≤ g ∧ g < W.heap.size := h.row.lt g hg
theorem FrN.below {W W' : World} {B gf n : Nat} {sv : Value} {L : List Rc} (h : FrN W B gf sv n L) (hb : Below W.heap.size W W') : FrN W' B gf sv n L := ⟨h.box.step hb, ownsRow_below h.row hb, h.len, h.lt⟩
theorem Kept.on {T T' : Nat → Prop} {w w1 w2 : World} (h : Kept T w w1) (h' : Kept T' w1 w2) (hT : ∀ k, k < w.heap.size → T' k → T k) : Kept T w w2 :=
  ⟨h'.os.trans h.os, h'.tape.trans h.tape, h'.output.trans h.output, Nat.le_trans h.size h'.size, fun k hk hn => (h'.block k (Nat.lt_of_lt_of_le hk h.size) (fun t => hn (hT k hk t))).trans (h.block k hk hn)⟩
theorem rcSnoc (L : List I2) (x y : Int) : recCells 2 e2 (L ++ [(x, y)]) = recCells 2 e2 L ++ [.int .i64 x, .int .i64 y] := by
  apply List.ext_getElem?
  intro q
  by_cases h1 : q < L.length * 2
  · rw [rcAt _ (by rw [List.length_append]; simp; omega), List.getElem?_append_left (by rw [recCells_length]; exact h1), rcAt L h1]
    have e : (L ++ [(x, y)]).getD (q / 2) default = L.getD (q / 2) default := by
      rw [List.getD_eq_getElem?_getD, List.getElem?_append_left (by omega), List.getD_eq_getElem?_getD]
    rw [e]
  · rw [List.getElem?_append_right (by rw [recCells_length]; omega), recCells_length]
    by_cases h2 : q < L.length * 2 + 2
    · rw [rcAt _ (by rw [List.length_append]; simp; omega)]
      have e : (L ++ [(x, y)]).getD (q / 2) default = (x, y) := by
        rw [List.getD_eq_getElem?_getD, List.getElem?_append_right (by omega), show q / 2 - L.length = 0 by omega]
        rfl
      rw [e]
      by_cases h3 : q = L.length * 2
      · rw [show q - L.length * 2 = 0 by omega, show q % 2 = 0 by omega]; rfl
      · rw [show q - L.length * 2 = 1 by omega, show q % 2 = 1 by omega]; rfl
    · rw [List.getElem?_eq_none (by rw [recCells_length, List.length_append]; simp; omega), List.getElem?_eq_none (by simp; omega)]
theorem cell_two_newR (w : World) (x y : Value) (t : TypeId) : ∀ j u, [x, y][j]? = some u → (w.alloc (.cells #[x, y] t)).cell? ((⟨w.heap.size, 0, none⟩ : Addr).add j) = some u := fun j u hu => by
  have h := (ownV_alloc w #[x, y] t).cell (i := j) hu
  rw [Go.WideShapes.add_plain, Nat.zero_add]
  exact h
theorem Try.infoReach : (Try.prog.info? 64).map (fun i => (i.zero, i.size, i.bytes)) = some (some (Value.agg #[.int .i64 0, .int .i64 0]), 2, 16) := by kernel_rfl
theorem Try.underReaches : Try.prog.underlying 59 = some (.slice 64) := by kernel_rfl

set_option maxRecDepth 10000 in
set_option maxHeartbeats 4000000 in
theorem frPush_any (B gf : Nat) (sv : Value) (n : Nat) (L : List Rc) (x y : Int) (w : World) (h : FrN w B gf sv n L) (hn : n ≤ 1000000) (hB : B ≤ w.heap.size) :
    Calls Try.prog 87 #[.pointer (some ⟨gf, 0, none⟩), .iface 64 (.agg #[.int .i64 x, .int .i64 y])] w fun e w' => e = .returned (.tuple #[]) ∧ ∃ g cap, FrN w' B gf (.slice (some ⟨g, 0, none⟩) (n + 1) cap) (n + 1) (L ++ [(x, y)]) ∧ (sv.ownBlock = some g ∨ w.heap.size ≤ g) ∧ Kept (fun b => b = gf ∨ sv.ownBlock = some b) w w' := by
  obtain ⟨i1, hi', hy0, hy1, hy2⟩ := info_parts Try.infoReach
  obtain ⟨a, cap, rfl, hcap⟩ := h.sl
  have HF := hide h
  have hl := h.len
  have HL := hide hl
  have hlt := h.box.lt
  have hgB := h.lt
  have c0 := h.box.cell (i := 0) rfl
  have fz := h.box.frozen 0
  have c0a : ∀ o, (w.alloc o).cell? ⟨gf, 0, none⟩ = some (.slice a n cap) := fun o => wcell3 c0 (Below.alloc1 w o)
  have c0d : w.drew.cell? ⟨gf, 0, none⟩ = some (.slice a n cap) := c0
  have hTA : ∀ W, (Instr.typeAssert (.iface 64 (.agg #[.int .i64 x, .int .i64 y])) 20 64 false).run Try.prog W = .ok (.agg #[.int .i64 x, .int .i64 y]) W := fun W => assertReach _ W
  clear h hl
  go_enter Try.func87, Try.ntmps87
  go_wp2
  go_region_law (refine step_append_lies _ (by rfl) (.tmp 8) (.tmp 11) 59 (by rfl) B 64 i1 _ 2 16 Try.underReaches hi' hy0 hy1 hy2 rfl (by decide) (.slice a n cap) n (recCells 2 e2 L) (by rfl) ((unhide HF).row.alloc _).drew ⟨w.heap.size, 0, none⟩ 1 1 [.int .i64 x, .int .i64 y] (by rfl) (by rfl) (cell_two_newR _ _ _ _) (by simp [Value.oneCell']) (by omega) (by unfold maxLen; omega) (by omega) (by simp; omega) (w.heap.size + 1) (by simp) ?_; intro g4 cap4 w2 hown' hgrow hat hlt4; have HKA : Hid (Kept (fun b => (Value.slice a n cap).ownBlock = some b) w w2) := ((kept_of_below (((Below.refl w.heap.size w).alloc (Nat.le_refl _) _).drew)).grown hgrow (fun k hk => hk)); have q3 := (unhide HF).box.kept (unhide HKA) (fun e => by have := ((unhide HF).own e).1; omega); have q4 := q3.cell (i := 0) rfl; have q5 := q3.frozen 0; have HQ3 := hide q3; have HO3 := hide hown'; have HAT : Hid ((Value.slice a n cap).ownBlock = some g4 ∨ w.heap.size ≤ g4) := (hat.imp id (fun e => by omega)); clear hown' hgrow hat q3)
  all_goals
    go_wp2
    go_end0
    have hg4 := (ownsRow_ownG (unhide HO3)).1
    refine ⟨rfl, g4, cap4, ⟨(unhide HQ3).set 0 _ (by simp), ?_, by rw [List.length_append, ← unhide HL]; rfl, hgB⟩, unhide HAT, ?_⟩
    · rw [rcSnoc]
      refine ownsRow_setCell_other (unhide HO3) (a := ⟨gf, 0, none⟩) ?_ _
      simp only [Value.ownBlock, ne_eq, Option.some.injEq]
      omega
    · exact Kept.setCell (T := fun b => b = gf ∨ (Value.slice a n cap).ownBlock = some b) ((unhide HKA).mono (fun k _ e => Or.inr e)) (p := ⟨gf, 0, none⟩) (Or.inl rfl) _

set_option maxRecDepth 10000 in
set_option maxHeartbeats 4000000 in
theorem heapPush_any (B gf : Nat) (sv : Value) (n : Nat) (L : List Rc) (x y : Int) (w : World) (h : FrN w B gf sv n L) (hh : Hp L n) (hn : n + 1 ≤ 1000000) (hB : B ≤ w.heap.size) :
    Calls Try.prog 32 #[.iface 57 (.pointer (some ⟨gf, 0, none⟩)), .iface 64 (.agg #[.int .i64 x, .int .i64 y])] w fun e w' => e = .returned (.tuple #[]) ∧ ∃ g cap L', FrN w' B gf (.slice (some ⟨g, 0, none⟩) (n + 1) cap) (n + 1) L' ∧ Hp L' (n + 1) ∧ (∀ e, e ∈ L' ↔ e ∈ L ∨ e = (x, y)) ∧ (sv.ownBlock = some g ∨ w.heap.size ≤ g) ∧ Kept (fun b => b = gf ∨ sv.ownBlock = some b) w w' := by
  have hl := h.len
  have hgB := h.lt
  have HP := hide (frPush_any B gf sv n L x y w h (by omega) hB)
  have hM := methPush w gf
  have HU : Hid (HpUp (L ++ [(x, y)]) (n + 1) n) := by
    show HpUp _ _ _
    subst hl
    exact hpUp_push hh (x, y)
  have i1 : IntKind.i64.wrap (((n : Int) + 1) - 1) = (n : Int) := by rw [IntKind.wrap_i64]; omega
  have i2 : IntKind.i64.wrap (((n + 1 : Nat) : Int) - 1) = (n : Int) := by rw [IntKind.wrap_i64]; omega
  clear h hh hl
  go_enter Try.func32, Try.ntmps32
  go_wp2_with fail
  refine (unhide HP).mono ?_
  rintro e w1 ⟨rfl, g, cap, hf, hat, hk⟩
  have HF := hide hf
  have HAT := hide hat
  have HK := hide hk
  have c1 := hf.box.cell (i := 0) rfl
  have hM2 := methLen c1
  have HLE := hide (lenR_any (some ⟨g, 0, none⟩) (n + 1) cap w1)
  have HUP := hide (up_any B gf g (n + 1) cap _ n w1 hf.fr (by omega) (unhide HU) hn)
  clear hf hat hk HP hM
  go_wp2_with fail
  refine (unhide HLE).mono ?_
  rintro e w2 ⟨rfl, h9⟩
  subst h9
  clear HLE
  go_wp2_with fail
  refine (unhide HUP).mono ?_
  rintro e w3 ⟨rfl, L', hp, ha⟩
  have HPP := hide hp
  have HA := hide ha
  clear hp ha HUP
  go_wp2
  go_end0
  refine ⟨rfl, g, cap, L', FrN.of (unhide HA).fr hgB, unhide HPP, fun e => ?_, unhide HAT, (unhide HK).on (unhide HA).kept (fun k hk e => ?_)⟩
  · rw [(unhide HA).mem e, List.mem_append, List.mem_singleton]
  · rcases unhide HAT with h1 | h1
    · exact Or.inr (by rw [e]; exact h1)
    · omega

end Go.Proofs.Ytdpcacfgbjllhaa

/- Proofs of costs in numbers; contract of the specification's Proves. Written by wip/mkprov.py. -/
namespace Go.Proofs.Ytdpcacfgbjllhaa
open Go.RowKit

def bearB (s : Se) (M : List Int) (p q : Nat) : Bool := decide (s.D.getD q 0 = 0) || (!nextB s.wd (p : Int) (q : Int) || (decide (0 ≤ M.getD q 0) && decide (M.getD q 0 - s.D.getD q 0 ≤ M.getD p 0)))
def comeB (s : Se) (M : List Int) (p q : Nat) : Bool := !decide (s.D.getD q 0 = 0) && (nextB s.wd (p : Int) (q : Int) && decide (M.getD q 0 = M.getD p 0 - s.D.getD p 0))
def reachB (s : Se) (x : Int) (M : List Int) (p k : Nat) : Bool := decide ((p : Int) = x) || (List.range k).any (comeB s M p)
def placeP (s : Se) (x : Int) (M : List Int) (p : Nat) : Bool := decide (-1 ≤ M.getD p 0) && ((!decide (s.D.getD p 0 = 0) || decide (M.getD p 0 = -1)) && (decide (M.getD p 0 < 0) || ((List.range s.D.length).all (bearB s M p) && reachB s x M p s.D.length)))
def prov0B (s : Se) (x : Int) (M : List Int) : Bool := seaB s && (onB s x && (!decide (costAt s x = 0) && (decide (M.length = s.D.length) && decide (M.getD x.toNat 0 = 0))))
def provesB (s : Se) (x : Int) (M : List Int) : Bool := prov0B s x M && (List.range s.D.length).all (placeP s x M)
theorem reachB_succ (s : Se) (x : Int) (M : List Int) (p k : Nat) : reachB s x M p (k + 1) = (reachB s x M p k || comeB s M p k) := by
  unfold reachB
  rw [List.range_succ, List.any_append]
  simp [Bool.or_assoc]
theorem provesB_place {s : Se} {x : Int} {M : List Int} {k : Nat} (hk : k < s.D.length) (h : placeP s x M k = false) : provesB s x M = false := by
  unfold provesB
  rw [all_false (xs := List.range s.D.length) (d := 0) (i := k) (by simpa using hk) (by simpa [List.getD, hk] using h), Bool.and_false]
theorem provesB_all {s : Se} {x : Int} {M : List Int} (h0 : prov0B s x M = true) (h : ∀ r, r < s.D.length → placeP s x M r = true) : provesB s x M = true := by
  unfold provesB
  rw [h0, all_true (xs := List.range s.D.length) (d := 0) (fun r hr => by
    have hr' : r < s.D.length := by simpa using hr
    simpa [List.getD, hr'] using h r hr')]
  rfl
theorem placeP_bear {s : Se} {x : Int} {M : List Int} {p q : Nat} (hq : q < s.D.length) (h0 : ¬ M.getD p 0 < 0) (h : bearB s M p q = false) : placeP s x M p = false := by
  unfold placeP
  rw [all_false (xs := List.range s.D.length) (d := 0) (i := q) (by simpa using hq) (by simpa [List.getD, hq] using h), decide_eq_false h0]
  simp
theorem placeP_yes {s : Se} {x : Int} {M : List Int} {p : Nat} (h0 : 0 ≤ M.getD p 0) (hd : s.D.getD p 0 ≠ 0) (hb : ∀ r, r < s.D.length → bearB s M p r = true) (hr : reachB s x M p s.D.length = true) : placeP s x M p = true := by
  unfold placeP
  rw [hr, all_true (xs := List.range s.D.length) (d := 0) (fun r hr => by
    have hr' : r < s.D.length := by simpa using hr
    simpa [List.getD, hr'] using hb r hr'), decide_eq_true (show -1 ≤ M.getD p 0 by omega), decide_eq_false hd]
  simp
theorem placeP_no {s : Se} {x : Int} {M : List Int} {p : Nat} (h0 : ¬ M.getD p 0 < 0) (hr : reachB s x M p s.D.length = false) : placeP s x M p = false := by
  unfold placeP
  rw [hr, decide_eq_false h0]
  simp
theorem placeP_none {s : Se} {x : Int} {M : List Int} {p : Nat} (h : M.getD p 0 = -1) : placeP s x M p = true := by
  unfold placeP
  rw [h]
  simp
theorem placeP_low {s : Se} {x : Int} {M : List Int} {p : Nat} (h : M.getD p 0 < -1) : placeP s x M p = false := by
  unfold placeP
  rw [decide_eq_false (show ¬ -1 ≤ M.getD p 0 by omega)]
  rfl
theorem placeP_land {s : Se} {x : Int} {M : List Int} {p : Nat} (hd : s.D.getD p 0 = 0) (h : M.getD p 0 ≠ -1) : placeP s x M p = false := by
  unfold placeP
  rw [decide_eq_true hd, decide_eq_false h]
  simp
theorem prov0_n {s : Se} {x : Int} {M : List Int} (h : prov0B s x M = true) : SeaN s ∧ (∃ xi : Nat, x = (xi : Int) ∧ xi < s.D.length ∧ M.getD xi 0 = 0) ∧ M.length = s.D.length := by
  unfold prov0B at h
  simp only [Bool.and_eq_true, decide_eq_true_eq] at h
  obtain ⟨h1, h2, -, h4, h5⟩ := h
  unfold onB at h2
  obtain ⟨a, b⟩ := inB_true h2
  exact ⟨seaB_n h1, ⟨x.toNat, by omega, by omega, h5⟩, h4⟩

end Go.Proofs.Ytdpcacfgbjllhaa

/- Costs that are proved are one list alone; rounds of costs that only fall end in costs that are proved. Mathematics; no statement about the program stands here. -/
namespace Go.Proofs.Ytdpcacfgbjllhaa
open Go.RowKit

theorem next_comm (wd a b : Int) : nextB wd a b = nextB wd b a := by
  unfold nextB
  rw [show (a % wd - b % wd) * (a % wd - b % wd) = (b % wd - a % wd) * (b % wd - a % wd) by rw [← Int.neg_mul_neg]; congr 1 <;> omega, show (a / wd - b / wd) * (a / wd - b / wd) = (b / wd - a / wd) * (b / wd - a / wd) by rw [← Int.neg_mul_neg]; congr 1 <;> omega]
theorem next_self (wd a : Int) : nextB wd a a = false := by unfold nextB; simp
/-- What provesB says of each place. -/
structure Prov (s : Se) (x : Nat) (M : List Int) : Prop where
  n : SeaN s
  len : M.length = s.D.length
  at0 : M.getD x 0 = 0
  low : ∀ p, p < s.D.length → -1 ≤ M.getD p 0
  land : ∀ p, p < s.D.length → s.D.getD p 0 = 0 → M.getD p 0 = -1
  bear : ∀ p q, p < s.D.length → q < s.D.length → 0 ≤ M.getD p 0 → s.D.getD q 0 ≠ 0 → nextB s.wd (p : Int) (q : Int) = true → 0 ≤ M.getD q 0 ∧ M.getD q 0 - s.D.getD q 0 ≤ M.getD p 0
  came : ∀ p, p < s.D.length → 0 ≤ M.getD p 0 → p = x ∨ ∃ q, q < s.D.length ∧ s.D.getD q 0 ≠ 0 ∧ nextB s.wd (p : Int) (q : Int) = true ∧ M.getD q 0 = M.getD p 0 - s.D.getD p 0
theorem proves_prov {s : Se} {x : Nat} {M : List Int} (h : provesB s (x : Int) M = true) : Prov s x M := by
  unfold provesB at h
  rw [Bool.and_eq_true, List.all_eq_true] at h
  obtain ⟨hn, ⟨xi, ex, hx, h0⟩, hl⟩ := prov0_n h.1
  have hP : ∀ p, p < s.D.length → placeP s (x : Int) M p = true := fun p hp => h.2 p (by rw [List.mem_range]; exact hp)
  have hx' : x = xi := by omega
  subst hx'
  refine ⟨hn, hl, h0, fun p hp => ?_, fun p hp hd => ?_, fun p q hp hq hm hd hx => ?_, fun p hp hm => ?_⟩
  all_goals
    have := hP p hp
    unfold placeP at this
    simp only [Bool.and_eq_true, Bool.or_eq_true, Bool.not_eq_true', decide_eq_true_eq, decide_eq_false_iff_not] at this
    obtain ⟨h1, h2, h3⟩ := this
  · exact h1
  · rcases h2 with h2 | h2
    · exact absurd hd h2
    · exact h2
  · rcases h3 with h3 | ⟨h3, -⟩
    · omega
    have := List.all_eq_true.1 h3 q (by rw [List.mem_range]; exact hq)
    unfold bearB at this
    rw [hx] at this
    simp only [Bool.and_eq_true, Bool.or_eq_true, Bool.not_true, decide_eq_true_eq] at this
    rcases this with h5 | h5 | h5
    · exact absurd h5 hd
    · exact absurd h5 (by simp)
    · exact h5
  · rcases h3 with h3 | ⟨-, h3⟩
    · omega
    unfold reachB at h3
    rw [Bool.or_eq_true, decide_eq_true_eq, List.any_eq_true] at h3
    rcases h3 with h3 | ⟨q, hq, hc⟩
    · left; omega
    · right
      rw [List.mem_range] at hq
      unfold comeB at hc
      simp only [Bool.and_eq_true, Bool.not_eq_true', decide_eq_true_eq, decide_eq_false_iff_not] at hc
      exact ⟨q, hq, hc.1, hc.2.1, hc.2.2⟩
theorem Prov.le {s : Se} {x : Nat} {M N : List Int} (h : Prov s x M) (h' : Prov s x N) : ∀ (k p : Nat), p < s.D.length → 0 ≤ M.getD p 0 → M.getD p 0 ≤ (k : Int) → 0 ≤ N.getD p 0 ∧ N.getD p 0 ≤ M.getD p 0 := by
  intro k
  induction k with
  | zero =>
    intro p hp h0 hk
    rcases h.came p hp h0 with rfl | ⟨q, hq, hd, hx, he⟩
    · rw [h'.at0, h.at0]; omega
    · have hdp := (h.n.cost p hp).1
      have hpz : s.D.getD p 0 ≠ 0 := fun e => by have := h.land p hp e; omega
      have := h.low q hq
      have hbq := h.bear p q hp hq h0 hd hx
      omega
  | succ k ih =>
    intro p hp h0 hk
    rcases h.came p hp h0 with rfl | ⟨q, hq, hd, hx, he⟩
    · rw [h'.at0, h.at0]; omega
    · have hdp := (h.n.cost p hp).1
      have hpz : s.D.getD p 0 ≠ 0 := fun e => by have := h.land p hp e; omega
      have hbq := (h.bear p q hp hq h0 hd hx).1
      have h1 := ih q hq hbq (by omega)
      have h2 := h'.bear q p hq hp h1.1 hpz (by rw [next_comm]; exact hx)
      omega
theorem prov_one {s : Se} {x : Nat} {M N : List Int} (h : Prov s x M) (h' : Prov s x N) : M = N := by
  apply List.ext_getElem?
  intro p
  by_cases hp : p < s.D.length
  · have e : M.getD p 0 = N.getD p 0 := by
      by_cases h0 : 0 ≤ M.getD p 0
      · have h1 := h.le h' (M.getD p 0).toNat p hp h0 (by omega)
        have h2 := h'.le h (N.getD p 0).toNat p hp h1.1 (by omega)
        omega
      · by_cases h1 : 0 ≤ N.getD p 0
        · have := (h'.le h (N.getD p 0).toNat p hp h1 (by omega)).1
          omega
        · have := h.low p hp
          have := h'.low p hp
          omega
    have hM : p < M.length := by rw [h.len]; exact hp
    have hN : p < N.length := by rw [h'.len]; exact hp
    rw [getD_lt hM, getD_lt hN] at e
    rw [List.getElem?_eq_getElem hM, List.getElem?_eq_getElem hN, e]
  · rw [List.getElem?_eq_none (by rw [h.len]; omega), List.getElem?_eq_none (by rw [h'.len]; omega)]

/-- How many places are reached. -/
def cnt (M : List Int) : Nat := M.countP (fun m => decide (0 ≤ m))
/-- What can still fall. -/
def mu (M : List Int) : Nat := (M.map (fun m => if m < 0 then 144001 else m.toNat)).sum
theorem countP_set {f : Int → Bool} {M : List Int} {p : Nat} (hp : p < M.length) (v : Int) : (M.set p v).countP f + (if f (M.getD p 0) = true then 1 else 0) = M.countP f + (if f v = true then 1 else 0) := by
  induction M generalizing p with
  | nil => simp at hp
  | cons a t ih =>
    cases p with
    | zero => simp [List.countP_cons, List.getD]; omega
    | succ p =>
      have := ih (p := p) (by simpa using hp)
      simp only [List.set_cons_succ, List.countP_cons]
      have e : (a :: t).getD (p + 1) 0 = t.getD p 0 := by simp [List.getD]
      rw [e]
      omega
theorem sum_set {f : Int → Nat} {M : List Int} {p : Nat} (hp : p < M.length) (v : Int) : ((M.set p v).map f).sum + f (M.getD p 0) = (M.map f).sum + f v := by
  induction M generalizing p with
  | nil => simp at hp
  | cons a t ih =>
    cases p with
    | zero => simp [List.getD]; omega
    | succ p =>
      have := ih (p := p) (by simpa using hp)
      simp only [List.set_cons_succ, List.map_cons, List.sum_cons]
      have e : (a :: t).getD (p + 1) 0 = t.getD p 0 := by simp [List.getD]
      rw [e]
      omega
theorem getD_set {M : List Int} {p r : Nat} (hp : p < M.length) (v : Int) : (M.set p v).getD r 0 = if r = p then v else M.getD r 0 := by
  rw [List.getD_eq_getElem?_getD, List.getElem?_set]
  by_cases e : p = r
  · rw [if_pos e, if_pos hp, if_pos e.symm]; rfl
  · rw [if_neg e, if_neg (fun h => e h.symm), List.getD_eq_getElem?_getD]

/-- The costs along the rounds. -/
structure BF (s : Se) (x : Nat) (M : List Int) : Prop where
  len : M.length = s.D.length
  at0 : M.getD x 0 = 0
  low : ∀ p, p < s.D.length → -1 ≤ M.getD p 0
  land : ∀ p, p < s.D.length → s.D.getD p 0 = 0 → M.getD p 0 = -1
  came : ∀ p, p < s.D.length → 0 ≤ M.getD p 0 → p = x ∨ ∃ q, q < s.D.length ∧ 0 ≤ M.getD q 0 ∧ nextB s.wd (p : Int) (q : Int) = true ∧ M.getD q 0 + s.D.getD p 0 ≤ M.getD p 0
  high : ∀ p, p < s.D.length → M.getD p 0 + 1000 ≤ 1000 * (cnt M : Int)
theorem BF.cnt_le {s : Se} {x : Nat} {M : List Int} (h : BF s x M) : cnt M ≤ s.D.length := by rw [← h.len]; exact List.countP_le_length
theorem BF.put {s : Se} {x : Nat} {M : List Int} (hn : SeaN s) (h : BF s x M) {p q : Nat} (hp : p < s.D.length) (hq : q < s.D.length) (hq0 : 0 ≤ M.getD q 0) (hd : 0 < s.D.getD p 0) (hx : nextB s.wd (p : Int) (q : Int) = true) (hlt : M.getD p 0 < 0 ∨ M.getD q 0 + s.D.getD p 0 < M.getD p 0) :
    BF s x (M.set p (M.getD q 0 + s.D.getD p 0)) ∧ mu (M.set p (M.getD q 0 + s.D.getD p 0)) < mu M := by
  have hpM : p < M.length := by rw [h.len]; exact hp
  have hpx : p ≠ x := fun e => by subst e; rw [h.at0] at hlt; omega
  have hqp : q ≠ p := fun e => by rw [e, next_self] at hx; cases hx
  have hc := countP_set (f := fun m => decide (0 ≤ m)) hpM (M.getD q 0 + s.D.getD p 0)
  have hs := sum_set (f := fun m => if m < 0 then 144001 else m.toNat) hpM (M.getD q 0 + s.D.getD p 0)
  have hcm := (hn.cost p hp).2
  have hh := h.high q hq
  have hle := h.cnt_le
  have hn144 := hn.le
  rw [if_pos (show decide (0 ≤ M.getD q 0 + s.D.getD p 0) = true by rw [decide_eq_true_eq]; omega)] at hc
  have hcnt : cnt M ≤ cnt (M.set p (M.getD q 0 + s.D.getD p 0)) ∧ (M.getD p 0 < 0 → cnt (M.set p (M.getD q 0 + s.D.getD p 0)) = cnt M + 1) := by
    unfold cnt
    by_cases e : M.getD p 0 < 0
    · rw [if_neg (show ¬ decide (0 ≤ M.getD p 0) = true by rw [decide_eq_true_eq]; omega)] at hc; omega
    · rw [if_pos (show decide (0 ≤ M.getD p 0) = true by rw [decide_eq_true_eq]; omega)] at hc; omega
  have hcs : cnt (M.set p (M.getD q 0 + s.D.getD p 0)) ≤ s.D.length := by
    have : (M.set p (M.getD q 0 + s.D.getD p 0)).length = s.D.length := by rw [List.length_set, h.len]
    rw [← this]
    exact List.countP_le_length
  have hv : M.getD q 0 + s.D.getD p 0 + 1000 ≤ 1000 * (cnt (M.set p (M.getD q 0 + s.D.getD p 0)) : Int) := by
    rcases hlt with e | e
    · rw [hcnt.2 e]; omega
    · have := h.high p hp; omega
  constructor
  · refine ⟨by rw [List.length_set]; exact h.len, by rw [getD_set hpM, if_neg (fun e => hpx e.symm)]; exact h.at0, fun r hr => ?_, fun r hr hz => ?_, fun r hr h0 => ?_, fun r hr => ?_⟩
    · rw [getD_set hpM]
      split
      · omega
      · exact h.low r hr
    · rw [getD_set hpM, if_neg (fun e => by rw [e] at hz; omega)]
      exact h.land r hr hz
    · by_cases e : r = p
      · right
        refine ⟨q, hq, ?_, by rw [e]; exact hx, ?_⟩
        · rw [getD_set hpM, if_neg hqp]; exact hq0
        · rw [getD_set hpM, if_neg hqp, getD_set hpM, if_pos e, e]; omega
      · rw [getD_set hpM, if_neg e] at h0
        rcases h.came r hr h0 with h1 | ⟨q', hq', h1, h2, h3⟩
        · left; exact h1
        · right
          refine ⟨q', hq', ?_, h2, ?_⟩
          · rw [getD_set hpM]
            split
            · omega
            · exact h1
          · rw [getD_set hpM, getD_set hpM, if_neg e]
            split
            · next e' => subst e'; omega
            · exact h3
    · rw [getD_set hpM]
      split
      · exact hv
      · have := h.high r hr; omega
  · unfold mu
    by_cases e : M.getD p 0 < 0
    · rw [if_pos e, if_neg (by omega)] at hs; omega
    · rw [if_neg e, if_neg (by omega)] at hs; omega
/-- Nothing falls at p by way of q. -/
def Rest (s : Se) (M : List Int) (p q : Nat) : Prop := 0 < s.D.getD p 0 → 0 ≤ M.getD q 0 → nextB s.wd (p : Int) (q : Int) = true → 0 ≤ M.getD p 0 ∧ M.getD p 0 ≤ M.getD q 0 + s.D.getD p 0
theorem BF.proved {s : Se} {x : Nat} {M : List Int} (hn : SeaN s) (hs : seaB s = true) (hx : x < s.D.length) (hxd : s.D.getD x 0 ≠ 0) (h : BF s x M) (hr : ∀ p q, p < s.D.length → q < s.D.length → Rest s M p q) : provesB s (x : Int) M = true := by
  refine provesB_all ?_ (fun p hp => ?_)
  · unfold prov0B onB costAt
    rw [hs, inB_mk (by omega) (by omega)]
    simp only [Int.toNat_natCast]
    rw [decide_eq_false hxd, decide_eq_true h.len, decide_eq_true h.at0]
    rfl
  · by_cases h0 : 0 ≤ M.getD p 0
    case neg => exact placeP_none (by have := h.low p hp; omega)
    have hd : s.D.getD p 0 ≠ 0 := fun e => by have := h.land p hp e; omega
    have hdp := (hn.cost p hp).1
    refine placeP_yes h0 hd (fun q hq => ?_) ?_
    · unfold bearB
      by_cases hz : s.D.getD q 0 = 0
      · rw [decide_eq_true hz]; rfl
      cases hxn : nextB s.wd (p : Int) (q : Int) with
      | false => simp
      | true =>
        have hdq := (hn.cost q hq).1
        have := hr q p hq hp (by omega) h0 (by rw [next_comm]; exact hxn)
        rw [decide_eq_true this.1, decide_eq_true (show M.getD q 0 - s.D.getD q 0 ≤ M.getD p 0 by omega)]
        simp
    · unfold reachB
      rcases h.came p hp h0 with h1 | ⟨q, hq, h1, h2, h3⟩
      · rw [decide_eq_true (by omega)]; rfl
      rw [Bool.or_eq_true]
      right
      rw [List.any_eq_true]
      refine ⟨q, by rw [List.mem_range]; exact hq, ?_⟩
      have h4 := hr p q hp hq (by omega) h1 h2
      have hqz : s.D.getD q 0 ≠ 0 := fun e => by have := h.land q hq e; omega
      unfold comeB
      rw [h2, decide_eq_false hqz, decide_eq_true (show M.getD q 0 = M.getD p 0 - s.D.getD p 0 by omega)]
      rfl
theorem bf_start {s : Se} {x : Nat} (hx : x < s.D.length) (hxd : s.D.getD x 0 ≠ 0) : BF s x ((List.replicate s.D.length (-1)).set x 0) := by
  have hl : x < (List.replicate s.D.length (-1 : Int)).length := by simpa using hx
  have hg : ∀ r, r < s.D.length → (List.replicate s.D.length (-1 : Int)).getD r 0 = -1 := fun r hr => by simp [List.getD, hr]
  have hc : cnt ((List.replicate s.D.length (-1 : Int)).set x 0) = 1 := by
    have h := countP_set (f := fun m => decide (0 ≤ m)) hl 0
    rw [hg x hx] at h
    have h0 : (List.replicate s.D.length (-1 : Int)).countP (fun m => decide (0 ≤ m)) = 0 := by
      rw [List.countP_eq_zero]
      intro a ha
      rw [List.eq_of_mem_replicate ha]
      simp
    rw [h0] at h
    unfold cnt
    simp at h
    omega
  refine ⟨by simp, by rw [getD_set hl, if_pos rfl], fun p hp => ?_, fun p hp hz => ?_, fun p hp h0 => ?_, fun p hp => ?_⟩
  · rw [getD_set hl]; split
    · omega
    · rw [hg p hp]; omega
  · rw [getD_set hl, if_neg (fun e => hxd (by rw [← e]; exact hz)), hg p hp]
  · rw [getD_set hl] at h0
    split at h0
    · next e => left; exact e
    · rw [hg p hp] at h0; omega
  · rw [hc, getD_set hl]; split
    · omega
    · rw [hg p hp]; omega

end Go.Proofs.Ytdpcacfgbjllhaa

/- Cheapest ways by a heap, in numbers: what is held from one taking to the next; in the end the costs are proved. Mathematics; no statement about the program stands here. -/
namespace Go.Proofs.Ytdpcacfgbjllhaa
open Go.RowKit

/-- Costs M that are told for good, reaches L in the heap, none below t; E p q: p by way of q has not been looked at yet. -/
structure Dj (s : Se) (x : Nat) (M : List Int) (L : List Rc) (t : Int) (E : Nat → Nat → Prop) : Prop where
  len : M.length = s.D.length
  t0 : 0 ≤ t
  low : ∀ p, p < s.D.length → -1 ≤ M.getD p 0
  land : ∀ p, p < s.D.length → s.D.getD p 0 = 0 → M.getD p 0 = -1
  top : ∀ p, p < s.D.length → M.getD p 0 ≤ t
  ent : ∀ e, e ∈ L → ∃ p : Nat, e.2 = (p : Int) ∧ p < s.D.length ∧ 0 < s.D.getD p 0 ∧ t ≤ e.1 ∧ e.1 ≤ 1000 * (cnt M : Int) ∧ ((p = x ∧ e.1 = 0) ∨ ∃ q, q < s.D.length ∧ 0 ≤ M.getD q 0 ∧ nextB s.wd (p : Int) (q : Int) = true ∧ e.1 = M.getD q 0 + s.D.getD p 0)
  beg : M.getD x 0 = 0 ∨ ((0, (x : Int)) ∈ L ∧ ∀ e, e ∈ L → e = (0, (x : Int)))
  cov : ∀ p q, p < s.D.length → q < s.D.length → 0 ≤ M.getD q 0 → 0 < s.D.getD p 0 → nextB s.wd (p : Int) (q : Int) = true → 0 ≤ M.getD p 0 ∨ (M.getD q 0 + s.D.getD p 0, (p : Int)) ∈ L ∨ E p q
  rel : ∀ p q, p < s.D.length → q < s.D.length → 0 ≤ M.getD q 0 → 0 ≤ M.getD p 0 → nextB s.wd (p : Int) (q : Int) = true → M.getD p 0 ≤ M.getD q 0 + s.D.getD p 0
  came : ∀ p, p < s.D.length → 0 ≤ M.getD p 0 → p = x ∨ ∃ q, q < s.D.length ∧ 0 ≤ M.getD q 0 ∧ nextB s.wd (p : Int) (q : Int) = true ∧ M.getD q 0 + s.D.getD p 0 ≤ M.getD p 0
  high : ∀ p, p < s.D.length → 0 ≤ M.getD p 0 → M.getD p 0 + 1000 ≤ 1000 * (cnt M : Int)

theorem Dj.cnt_le {s : Se} {x : Nat} {M : List Int} {L : List Rc} {t : Int} {E : Nat → Nat → Prop} (h : Dj s x M L t E) : cnt M ≤ s.D.length := by rw [← h.len]; exact List.countP_le_length
theorem cnt_none (n : Nat) : cnt (List.replicate n (-1)) = 0 := by
  unfold cnt
  rw [List.countP_eq_zero]
  intro a ha
  rw [List.eq_of_mem_replicate ha]
  simp
theorem repl_at {n p : Nat} (h : p < n) : (List.replicate n (-1 : Int)).getD p 0 = -1 := by simp [List.getD, h]
theorem dj_start {s : Se} {x : Nat} (hx : x < s.D.length) (hd : 0 < s.D.getD x 0) : Dj s x (List.replicate s.D.length (-1)) [(0, (x : Int))] 0 (fun _ _ => False) where
  len := by simp
  t0 := by omega
  low := fun p hp => by rw [repl_at hp]; omega
  land := fun p hp _ => repl_at hp
  top := fun p hp => by rw [repl_at hp]; omega
  ent := fun e he => by
    rw [List.mem_singleton] at he
    subst he
    exact ⟨x, rfl, hx, hd, by simp, by rw [cnt_none]; simp, Or.inl ⟨rfl, rfl⟩⟩
  beg := Or.inr ⟨by simp, fun e he => by simpa using he⟩
  cov := fun p q hp hq h0 => by rw [repl_at hq] at h0; omega
  rel := fun p q hp hq h0 => by rw [repl_at hq] at h0; omega
  came := fun p hp h0 => by rw [repl_at hp] at h0; omega
  high := fun p hp h0 => by rw [repl_at hp] at h0; omega
/-- What is taken is told already. -/
theorem Dj.old {s : Se} {x : Nat} {M : List Int} {L L' : List Rc} {t : Int} {c : Int} {p : Nat} (h : Dj s x M L t (fun _ _ => False)) (hm : ∀ e, e ∈ L ↔ e ∈ L' ∨ e = (c, (p : Int))) (hp : 0 ≤ M.getD p 0) : Dj s x M L' t (fun _ _ => False) where
  len := h.len
  t0 := h.t0
  low := h.low
  land := h.land
  top := h.top
  ent := fun e he => h.ent e ((hm e).2 (Or.inl he))
  beg := by
    rcases h.beg with h1 | ⟨h1, h2⟩
    · exact Or.inl h1
    · have hc := h2 _ ((hm (c, (p : Int))).2 (Or.inr rfl))
      simp only [Prod.mk.injEq] at hc
      have ep : p = x := by omega
      subst ep
      by_cases hz : M.getD p 0 = 0
      · exact Or.inl hz
      · exfalso
        obtain ⟨p', e1, e2, e3, f4, -⟩ := h.ent _ h1
        have hpp : p = p' := by simp at e1; omega
        subst hpp
        have := h.top p e2
        simp at f4
        omega
  cov := fun p' q h1 h2 h3 h4 h5 => by
    rcases h.cov p' q h1 h2 h3 h4 h5 with h6 | h6 | h6
    · exact Or.inl h6
    · rcases (hm _).1 h6 with h7 | h7
      · exact Or.inr (Or.inl h7)
      · simp only [Prod.mk.injEq] at h7
        have : p' = p := by omega
        exact Or.inl (by rw [this]; exact hp)
    · exact h6.elim
  rel := h.rel
  came := h.came
  high := h.high
/-- What is taken is told for good. -/
theorem Dj.settle {s : Se} {x : Nat} {M : List Int} {L L' : List Rc} {t : Int} {c : Int} {p : Nat} (hn : SeaN s) (h : Dj s x M L t (fun _ _ => False)) (hm : ∀ e, e ∈ L ↔ e ∈ L' ∨ e = (c, (p : Int))) (hl : ∀ e, e ∈ L → c ≤ e.1) (hp : M.getD p 0 < 0) : Dj s x (M.set p c) L' c (fun _ q => q = p) ∧ cnt (M.set p c) = cnt M + 1 ∧ p < s.D.length ∧ 0 ≤ c ∧ c ≤ 1000 * (cnt M : Int) ∧ (M.set p c).getD x 0 = 0 := by
  have hin : (c, (p : Int)) ∈ L := (hm _).2 (Or.inr rfl)
  obtain ⟨p', e1, hpn, hdp, htc, hcb, hw⟩ := h.ent _ hin
  have epp : p = p' := by simp at e1; omega
  subst epp
  have hc0 : 0 ≤ c := by have := h.t0; simp at htc; omega
  simp only at htc hcb hw
  have hpM : p < M.length := by rw [h.len]; exact hpn
  have hcn : cnt (M.set p c) = cnt M + 1 := by
    have hc := countP_set (f := fun m => decide (0 ≤ m)) hpM c
    rw [if_neg (show ¬ decide (0 ≤ M.getD p 0) = true by rw [decide_eq_true_eq]; omega), if_pos (show decide (0 ≤ c) = true by rw [decide_eq_true_eq]; exact hc0)] at hc
    unfold cnt
    omega
  have hat : ∀ r, (M.set p c).getD r 0 = if r = p then c else M.getD r 0 := fun r => getD_set hpM c
  have hne : ∀ r, 0 ≤ M.getD r 0 → r ≠ p := fun r h0 e => by rw [e] at h0; omega
  have hsame : ∀ r, 0 ≤ M.getD r 0 → (M.set p c).getD r 0 = M.getD r 0 := fun r h0 => by rw [hat, if_neg (hne r h0)]
  have hx0 : (M.set p c).getD x 0 = 0 := by
    rcases h.beg with h1 | ⟨h1, h2⟩
    · rw [hsame x (by omega)]; exact h1
    · have h3 := h2 _ hin
      simp only [Prod.mk.injEq] at h3
      rw [hat, if_pos (by omega)]
      exact h3.1
  refine ⟨⟨by rw [List.length_set]; exact h.len, hc0, fun r hr => ?_, fun r hr hz => ?_, fun r hr => ?_, fun e he => ?_, Or.inl hx0, fun r q hr hq h0 hd hx => ?_, fun r q hr hq h0 h1 hx => ?_, fun r hr h0 => ?_, fun r hr h0 => ?_⟩, hcn, hpn, hc0, hcb, hx0⟩
  · rw [hat]; split
    · omega
    · exact h.low r hr
  · rw [hat, if_neg (fun e => by rw [e] at hz; omega)]; exact h.land r hr hz
  · rw [hat]; split
    · omega
    · have := h.top r hr; omega
  · have heL := (hm e).2 (Or.inl he)
    obtain ⟨r, f1, f2, f3, f4, f5, f6⟩ := h.ent e heL
    refine ⟨r, f1, f2, f3, hl e heL, by rw [hcn]; omega, ?_⟩
    rcases f6 with f6 | ⟨q, q1, q2, q3, q4⟩
    · exact Or.inl f6
    · exact Or.inr ⟨q, q1, by rw [hsame q q2]; exact q2, q3, by rw [hsame q q2]; exact q4⟩
  · by_cases eq : q = p
    · exact Or.inr (Or.inr eq)
    · rw [hat, if_neg eq] at h0
      rw [hat q, if_neg eq]
      rcases h.cov r q hr hq h0 hd hx with h6 | h6 | h6
      · left; rw [hsame r h6]; exact h6
      · rcases (hm _).1 h6 with h7 | h7
        · exact Or.inr (Or.inl h7)
        · simp only [Prod.mk.injEq] at h7
          left
          rw [hat, if_pos (by omega)]
          exact hc0
      · exact h6.elim
  · have hdr := (hn.cost r hr).1
    by_cases er : r = p
    · by_cases eq : q = p
      · rw [er, eq, next_self] at hx; cases hx
      · rw [hat r, if_pos er, hat q, if_neg eq]
        rw [hat q, if_neg eq] at h0
        rcases h.cov r q hr hq h0 (by rw [er]; exact hdp) hx with h6 | h6 | h6
        · rw [er] at h6; omega
        · exact hl _ h6
        · exact h6.elim
    · rw [hat r, if_neg er]
      rw [hat r, if_neg er] at h1
      by_cases eq : q = p
      · rw [hat q, if_pos eq]
        have := h.top r hr
        omega
      · rw [hat q, if_neg eq]
        rw [hat q, if_neg eq] at h0
        exact h.rel r q hr hq h0 h1 hx
  · by_cases er : r = p
    · rw [hat r, if_pos er]
      rcases hw with ⟨w1, -⟩ | ⟨q, q1, q2, q3, q4⟩
      · left; omega
      · exact Or.inr ⟨q, q1, by rw [hsame q q2]; exact q2, by rw [er]; exact q3, by rw [hsame q q2, er]; omega⟩
    · rw [hat r, if_neg er] at h0 ⊢
      rcases h.came r hr h0 with h1 | ⟨q, q1, q2, q3, q4⟩
      · left; exact h1
      · exact Or.inr ⟨q, q1, by rw [hsame q q2]; exact q2, q3, by rw [hsame q q2]; exact q4⟩
  · rw [hcn]
    by_cases er : r = p
    · rw [hat r, if_pos er]; omega
    · rw [hat r, if_neg er] at h0 ⊢
      have := h.high r hr h0
      omega
/-- A pair that has been looked at. -/
theorem Dj.less {s : Se} {x : Nat} {M : List Int} {L : List Rc} {t : Int} {E E' : Nat → Nat → Prop} (h : Dj s x M L t E) (hE : ∀ p q, p < s.D.length → q < s.D.length → E p q → nextB s.wd (p : Int) (q : Int) = true → 0 < s.D.getD p 0 → M.getD p 0 < 0 → E' p q) : Dj s x M L t E' where
  len := h.len
  t0 := h.t0
  low := h.low
  land := h.land
  top := h.top
  ent := h.ent
  beg := h.beg
  cov := fun p q h1 h2 h3 h4 h5 => by
    rcases h.cov p q h1 h2 h3 h4 h5 with h6 | h6 | h6
    · exact Or.inl h6
    · exact Or.inr (Or.inl h6)
    · by_cases h7 : 0 ≤ M.getD p 0
      · exact Or.inl h7
      · exact Or.inr (Or.inr (hE p q h1 h2 h6 h5 h4 (by omega)))
  rel := h.rel
  came := h.came
  high := h.high
theorem Dj.push {s : Se} {x : Nat} {M : List Int} {L L' : List Rc} {t : Int} {E E' : Nat → Nat → Prop} {p q : Nat} (hn : SeaN s) (h : Dj s x M L t E) (hp : p < s.D.length) (hq : q < s.D.length) (hq0 : M.getD q 0 = t) (hd : 0 < s.D.getD p 0) (hx : nextB s.wd (p : Int) (q : Int) = true) (hx0 : M.getD x 0 = 0)
    (hm : ∀ e, e ∈ L' ↔ e ∈ L ∨ e = (t + s.D.getD p 0, (p : Int))) (hE : ∀ p' q', E p' q' → (p' = p ∧ q' = q) ∨ E' p' q') : Dj s x M L' t E' where
  len := h.len
  t0 := h.t0
  low := h.low
  land := h.land
  top := h.top
  ent := fun e he => by
    rcases (hm e).1 he with h1 | h1
    · exact h.ent e h1
    · subst h1
      have h0 := h.t0
      have hh := h.high q hq (by omega)
      have hc := (hn.cost p hp).2
      exact ⟨p, rfl, hp, hd, by show t ≤ t + s.D.getD p 0; omega, by show t + s.D.getD p 0 ≤ _; omega, Or.inr ⟨q, hq, by omega, hx, by show t + s.D.getD p 0 = _; omega⟩⟩
  beg := Or.inl hx0
  cov := fun p' q' h1 h2 h3 h4 h5 => by
    rcases h.cov p' q' h1 h2 h3 h4 h5 with h6 | h6 | h6
    · exact Or.inl h6
    · exact Or.inr (Or.inl ((hm _).2 (Or.inl h6)))
    · rcases hE p' q' h6 with ⟨e1, e2⟩ | h7
      · refine Or.inr (Or.inl ((hm _).2 (Or.inr ?_)))
        rw [e1, e2, hq0]
      · exact Or.inr (Or.inr h7)
  rel := h.rel
  came := h.came
  high := h.high
theorem Dj.proved {s : Se} {x : Nat} {M : List Int} {t : Int} (hn : SeaN s) (hs : seaB s = true) (hx : x < s.D.length) (hxd : 0 < s.D.getD x 0) (h : Dj s x M [] t (fun _ _ => False)) : provesB s (x : Int) M = true := by
  have h0 : M.getD x 0 = 0 := by
    rcases h.beg with h1 | ⟨h1, -⟩
    · exact h1
    · simp at h1
  have hc := h.high x hx (by omega)
  have hbf : BF s x M := ⟨h.len, h0, h.low, h.land, h.came, fun p hp => by
    by_cases h1 : 0 ≤ M.getD p 0
    · exact h.high p hp h1
    · omega⟩
  refine hbf.proved hn hs hx (by omega) (fun p q hp hq hd hq0 hxn => ?_)
  rcases h.cov p q hp hq hq0 hd hxn with h6 | h6 | h6
  · exact ⟨h6, h.rel p q hp hq hq0 h6 hxn⟩
  · simp at h6
  · exact h6.elim

end Go.Proofs.Ytdpcacfgbjllhaa

/- How a whole row of records is copied into a row of the call's own. No statement about the program stands here. -/
namespace Go.Proofs.Ytdpcacfgbjllhaa
open Go.RowKit

theorem run_copy_k {P : Program} (w : World) (dT sT ty elem : TypeId) (k : Nat) (g n dCap : Nat) (a : Addr) (sCap : Nat) (cur : Array Value) (t : TypeId) (cs : List Value)
    (hu : P.underlying dT = some (.slice elem)) (hs : (P.info? elem).map (·.size) = some k)
    (hg : w.heap[g]? = some (.cells cur t (0, 0))) (hn : cs.length = n * k)
    (hsrc : ∀ j v, cs[j]? = some v → w.cell? (a.add j) = some v) (hfit : cs.length ≤ cur.size) (h1 : ∀ v ∈ cs, v.oneCell' = true) :
    (Builtin.copy_ #[dT, sT] ty #[.slice (some ⟨g, 0, none⟩) n dCap, .slice (some a) n sCap]).run P w =
      .ok (goInt n) (w.setRow g (cs ++ cur.toList.drop cs.length).toArray) := by
  have hl := run_loadCells_list (P := P) w a cs hsrc
  have hst := run_storeCells_at P g 0 t cs 0 cur w hg (by simpa using hfit) h1
  simp only [Nat.zero_add, List.take_zero, List.nil_append] at hst
  cases hq : P.info? elem with
  | none => simp [hq] at hs
  | some i =>
    have hi : i.size = k := by simpa [hq] using hs
    have hmin : Nat.min n n = n := Nat.min_self n
    simp [Builtin.copy_, run_underlying hu, Builtin.lenOf, Builtin.firstCells, sizeOf, typeInfo, hq, hi, ← hn, hl, hst]

theorem run_copy_k0 {P : Program} (w : World) (dT sT ty elem : TypeId) (k : Nat) (d a : Option Addr) (dCap sCap : Nat) (hu : P.underlying dT = some (.slice elem)) (hs : (P.info? elem).map (·.size) = some k) :
    (Builtin.copy_ #[dT, sT] ty #[.slice d 0 dCap, .slice a 0 sCap]).run P w = .ok (goInt 0) w := by
  cases hq : P.info? elem with
  | none => simp [hq] at hs
  | some i =>
    have hl : ∀ (x : Addr), (loadCells x 0).run P w = .ok #[] w := fun x => by simpa using run_loadCells_list (P := P) w x [] (by simp)
    cases d <;> cases a <;> simp [Builtin.copy_, run_underlying hu, Builtin.lenOf, Builtin.firstCells, sizeOf, typeInfo, hq, storeCells, hl]

theorem below_setRow' {B g : Nat} {w0 w : World} (hb : Below B w0 w) (hBg : B ≤ g) (cs : Array Value) : Below B w0 (w.setRow g cs) :=
  hb.trans ⟨rfl, rfl, rfl, by simp [World.setRow], fun k hk => setRow_other w g k cs (by omega)⟩

theorem ownV_fits {w : World} {g : Nat} {zs : List Value} (h : OwnV w g zs) : ∃ c t, w.heap[g]? = some (.cells c t (0, 0)) ∧ zs.length ≤ c.size := by
  obtain ⟨c, t, h1, h2⟩ := h
  refine ⟨c, t, h1, ?_⟩
  rcases Nat.eq_zero_or_pos zs.length with e | e
  · omega
  · have := h2 (zs.length - 1) (by omega)
    rw [List.getElem?_eq_getElem (by omega)] at this
    have := (Array.getElem?_eq_some_iff.1 this).1
    omega

theorem run_copy_all {P : Program} {w : World} (dT sT elem : TypeId) (k : Nat) (hu : P.underlying dT = some (.slice elem)) (hsz : (P.info? elem).map (·.size) = some k)
    (g n dCap : Nat) (sp : Option Addr) (sCap : Nat)
    (zs cs : List Value) (hO : OwnV w g zs) (hz : zs.length = cs.length) (hn : cs.length = n * k)
    (hsrc : 0 < n → ∃ ad, sp = some ad ∧ ∀ j v, cs[j]? = some v → w.cell? (ad.add j) = some v) (h1 : ∀ v ∈ cs, v.oneCell' = true)
    (B : Nat) (w0 : World) (hb : Below B w0 w) (hBg : B ≤ g) :
    ∃ w', (∀ ty, (Builtin.copy_ #[dT, sT] ty #[.slice (some ⟨g, 0, none⟩) n dCap, .slice sp n sCap]).run P w = .ok (goInt n) w') ∧ OwnV w' g cs ∧ Below B w0 w' := by
  rcases Nat.eq_zero_or_pos n with h0 | hpos
  · subst h0
    have hc0 : cs = [] := List.eq_nil_of_length_eq_zero (by rw [hn, Nat.zero_mul])
    subst hc0
    obtain ⟨c, t, hg, _⟩ := hO
    exact ⟨w, fun ty => run_copy_k0 (P := P) w dT sT ty elem k (some ⟨g, 0, none⟩) sp dCap sCap hu hsz, ⟨c, t, hg, fun i hi => by simp at hi⟩, hb⟩
  · obtain ⟨c, t, hg, hc⟩ := ownV_fits hO
    obtain ⟨ad, rfl, hsr⟩ := hsrc hpos
    refine ⟨_, fun ty => run_copy_k (P := P) w dT sT ty elem k g n dCap ad sCap c t cs hu hsz hg hn hsr (by omega) h1, ⟨_, t, setRow_heap w g _ _ t _ hg, fun i hi => ?_⟩, below_setRow' hb hBg _⟩
    simp [List.getElem?_append_left hi]

/-- The cells of a list of records that came in. -/
theorem recs_src {α : Type} [Inhabited α] {n : Nat} {enc : α → Nat → Value} {w : World} {ao : Option Addr} {m cap : Nat} {L : List α} (h : RecsIn n enc w (.slice ao m cap) L) :
    0 < m → ∃ ad, ao = some ad ∧ ∀ j v, (recCells n enc L)[j]? = some v → w.cell? (ad.add j) = some v := by
  obtain ⟨ao', cap', e, hl, hm, hc⟩ := h
  simp only [Value.slice.injEq] at e
  obtain ⟨rfl, rfl, rfl⟩ := e
  intro hpos
  obtain ⟨b, o, e, hx⟩ := hc 0 hpos
  subst e
  refine ⟨_, rfl, fun j v hj => ?_⟩
  have hjl : j < L.length * n := by
    rcases Nat.lt_or_ge j (L.length * n) with h | h
    · exact h
    · rw [List.getElem?_eq_none (by rw [recCells_length]; exact h)] at hj; cases hj
  have hn0 : 0 < n := by
    rcases Nat.eq_zero_or_pos n with e | e
    · subst e; simp at hjl
    · exact e
  have hi : j / n < L.length := Nat.div_lt_of_lt_mul (by rw [Nat.mul_comm]; exact hjl)
  obtain ⟨b', o', e', hx'⟩ := hc (j / n) hi
  simp only [Option.some.injEq, Addr.mk.injEq, and_true] at e'
  obtain ⟨rfl, rfl⟩ := e'
  have hg := hx' (j % n) (Nat.mod_lt _ hn0)
  have hj2 := recCells_get (n := n) (enc := enc) hi (Nat.mod_lt j hn0)
  have hdm : j / n * n + j % n = j := by rw [Nat.mul_comm]; exact Nat.div_add_mod j n
  rw [hdm] at hg hj2
  rw [hj2] at hj
  have hadd : (⟨b, o, none⟩ : Addr).add j = ⟨b, o + j, none⟩ := by unfold Addr.add; split <;> simp_all
  rw [hadd, hg, hj]

theorem ints_src {w : World} {ao : Option Addr} {m cap : Nat} {xs : List Int} (h : IntsIn w (.slice ao m cap) xs) :
    0 < m → ∃ ad, ao = some ad ∧ ∀ j v, (ints xs)[j]? = some v → w.cell? (ad.add j) = some v := by
  obtain ⟨ao', cap', e, hl, hm, hc⟩ := h
  simp only [Value.slice.injEq] at e
  obtain ⟨rfl, rfl, rfl⟩ := e
  intro hpos
  obtain ⟨b, o, e, hx⟩ := hc 0 hpos
  subst e
  refine ⟨_, rfl, fun j v hj => ?_⟩
  have hjl : j < xs.length := by
    rcases Nat.lt_or_ge j xs.length with h | h
    · exact h
    · rw [List.getElem?_eq_none (by rw [ints_length]; exact h)] at hj; cases hj
  obtain ⟨b', o', e', hx'⟩ := hc j hjl
  simp only [Option.some.injEq, Addr.mk.injEq, and_true] at e'
  obtain ⟨rfl, rfl⟩ := e'
  have hadd : (⟨b, o, none⟩ : Addr).add j = ⟨b, o + j, none⟩ := by unfold Addr.add; split <;> simp_all
  rw [hadd, hx', ← hj, ints_get xs hjl]

end Go.Proofs.Ytdpcacfgbjllhaa

/- The contract of the program's ownCopy of Int. -/
namespace Go.Proofs.Ytdpcacfgbjllhaa
open Go.RowKit

set_option maxRecDepth 10000 in
theorem Try.infoIntCp : (Try.prog.info? 3).map (fun i => (i.zero, i.size, i.bytes)) = some (some (Value.int .i64 0), 1, 8) := by kernel_rfl

end Go.Proofs.Ytdpcacfgbjllhaa

/- The contract of slices.Repeat at one number. Written by wip/mkrep.py. -/
namespace Go.Proofs.Ytdpcacfgbjllhaa
open Go.RowKit

theorem Kept.drewL {T : Nat → Prop} {w w' : World} (hk : Kept T w.drew w') : Kept T w w' := ⟨hk.os, hk.tape, hk.output, hk.size, hk.block⟩

set_option maxRecDepth 10000 in
set_option maxHeartbeats 1600000 in
theorem mul64_any (n : Nat) (w : World) (hn : n < 4294967296) :
    Calls Try.prog 67 #[.int .u64 1, .int .u64 n] w fun e w' => e = .returned (.tuple #[.int .u64 0, .int .u64 n]) ∧ w' = w := by
  have a1 : bits .and .u64 1 4294967295 = 1 := by decide
  have a2 : bits .and .u64 (n : Int) 4294967295 = (n : Int) := by
    rw [show ((4294967295 : Int)) = ((4294967295 : Nat) : Int) from rfl, u64_and_nat n 4294967295 (by omega) (by omega), nat_mask32]
    congr 1
    exact Nat.mod_eq_of_lt hn
  have a3 : bits .and .u64 0 4294967295 = 0 := by decide
  have d1 : (n : Int) / 4294967296 = 0 := by omega
  have w1 : IntKind.u64.wrap (n : Int) = (n : Int) := by rw [IntKind.wrap_u64]; omega
  go_enter Try.func67, Try.ntmps67
  go_wp2
  refine bodyPost_ret (v := .tuple #[.int .u64 0, .int .u64 n]) (by simp [results, Try.results67, go_sem, *]) rfl ⟨rfl, rfl⟩

set_option maxRecDepth 10000 in
set_option maxHeartbeats 1600000 in
theorem mul_any (n : Nat) (w : World) (hn : n < 4294967296) :
    Calls Try.prog 57 #[.int .u64 1, .int .u64 n] w fun e w' => e = .returned (.tuple #[.int .u64 0, .int .u64 n]) ∧ w' = w := by
  have HM := hide (mul64_any n w hn)
  go_enter Try.func57, Try.ntmps57
  go_wp2_with fail
  refine (unhide HM).mono ?_
  rintro e w' ⟨rfl, h9⟩
  have h8 := h9.symm
  subst h8
  clear h9
  go_wp2
  refine bodyPost_ret (v := .tuple #[.int .u64 0, .int .u64 n]) (by simp [results, Try.results57, go_sem]) rfl ⟨rfl, rfl⟩

/-- A piece of a row is copied behind itself. -/
theorem run_copy_self {P : Program} {w : World} (dT elem : TypeId) (hu : P.underlying dT = some (.slice elem)) (hsz : (P.info? elem).map (·.size) = some 1)
    (g d e k dCap sCap : Nat) (M : List Int) (hO : OwnV w g (ints M)) (hk : k = Nat.min d e) (hd : d + e ≤ M.length) :
    ∃ w', (∀ ty, (Builtin.copy_ #[dT, dT] ty #[.slice (some ⟨g, d, none⟩) e dCap, .slice (some ⟨g, 0, none⟩) d sCap]).run P w = .ok (goInt k) w') ∧ OwnV w' g (ints (M.take d ++ M.take k ++ M.drop (d + k))) ∧ Kept (fun b => b = g) w w' := by
  obtain ⟨c, t, hg, hc⟩ := hO
  have hkd : k ≤ d := by rw [hk]; exact Nat.min_le_left _ _
  have hke : k ≤ e := by rw [hk]; exact Nat.min_le_right _ _
  have hsize : M.length ≤ c.size := by
    rcases Nat.eq_zero_or_pos M.length with h0 | h0
    · omega
    · have h1 := hc (M.length - 1) (by rw [ints_length]; omega)
      rw [ints_get M (by omega)] at h1
      have := (Array.getElem?_eq_some_iff.1 h1).1
      omega
  have htl : (M.take k).length = k := by rw [List.length_take]; omega
  have hl := run_loadCells_list (P := P) w ⟨g, 0, none⟩ (ints (M.take k)) (fun j v hj => by
    have hjk : j < k := by
      rcases Nat.lt_or_ge j k with h | h
      · exact h
      · rw [List.getElem?_eq_none (by rw [ints_length, htl]; exact h)] at hj; cases hj
    rw [show (⟨g, 0, none⟩ : Addr).add j = ⟨g, 0 + j, none⟩ from by simp [Addr.add]; exact fun h => h.symm, Nat.zero_add]
    have h1 := hc j (by rw [ints_length]; omega)
    rw [ints_get M (by omega)] at h1
    rw [ints_get (M.take k) (by rw [htl]; exact hjk)] at hj
    simp [World.cell?, hg, h1, ← hj, List.getD, hjk])
  have hst := run_storeCells_at P g d t (ints (M.take k)) 0 c w hg (by rw [ints_length, htl]; omega) (fun v hv => by obtain ⟨x, _, rfl⟩ := List.mem_map.1 hv; rfl)
  simp only [Nat.add_zero] at hst
  refine ⟨w.setRow g (c.toList.take d ++ ints (M.take k) ++ c.toList.drop (d + (ints (M.take k)).length)).toArray, fun ty => ?_, ?_, ⟨rfl, rfl, rfl, by simp [World.setRow], fun b _ hb => setRow_other w g b _ (fun e => hb e)⟩⟩
  · cases hq : P.info? elem with
    | none => simp [hq] at hsz
    | some i =>
      have hi : i.size = 1 := by simpa [hq] using hsz
      rw [ints_length, htl] at hl
      simp [Builtin.copy_, run_underlying hu, Builtin.lenOf, Builtin.firstCells, sizeOf, typeInfo, hq, hi, ← hk, hl, hst]
  · refine ⟨_, t, setRow_heap w g _ _ t _ hg, fun i hi => ?_⟩
    rw [ints_length] at hi
    have hlen : (M.take d ++ M.take k ++ M.drop (d + k)).length = M.length := by simp; omega
    rw [hlen] at hi
    have hcd : ∀ j, j < M.length → c.toList[j]? = some (.int .i64 (M.getD j 0)) := fun j hj => by
      rw [Array.getElem?_toList, hc j (by rw [ints_length]; exact hj), ints_get M hj]
    have e1 : (ints (M.take k)).length = k := by rw [ints_length, htl]
    have e2 : (c.toList.take d).length = d := by rw [List.length_take, Array.length_toList]; omega
    have e3 : (M.take d).length = d := by rw [List.length_take]; omega
    rw [ints_get _ (by rw [hlen]; exact hi)]
    simp only [List.getElem?_toArray]
    rcases Nat.lt_or_ge i d with h1 | h1
    · rw [List.append_assoc, List.getElem?_append_left (by omega), List.getElem?_take, if_pos h1, hcd i hi]
      congr 2
      simp [List.getD, List.getElem?_append_left (show i < (M.take d).length by omega), h1]
    · rcases Nat.lt_or_ge i (d + k) with h2 | h2
      · rw [List.getElem?_append_left (by rw [List.length_append, e1, e2]; omega), List.getElem?_append_right (by omega), e2, ints_get _ (by omega)]
        congr 2
        simp only [List.getD]
        rw [List.getElem?_append_left (by rw [List.length_append, e3, htl]; omega), List.getElem?_append_right (by omega), e3]
      · rw [List.getElem?_append_right (by rw [List.length_append, e1, e2]; omega), List.length_append, e1, e2, List.getElem?_drop, show d + k + (i - (d + k)) = i by omega, hcd i hi]
        congr 2
        simp only [List.getD]
        rw [List.getElem?_append_right (by rw [List.length_append, e3, htl]; omega), List.length_append, e3, htl, List.getElem?_drop, show d + k + (i - (d + k)) = i by omega]

/-- d of n numbers are told. -/
def upTo (x : Int) (n d : Nat) : List Int := List.replicate d x ++ List.replicate (n - d) 0
theorem upTo_len (x : Int) {n d : Nat} (h : d ≤ n) : (upTo x n d).length = n := by simp [upTo]; omega
theorem upTo_more (x : Int) {n d k : Nat} (hk : k ≤ d) (h : d + k ≤ n) : (upTo x n d).take d ++ (upTo x n d).take k ++ (upTo x n d).drop (d + k) = upTo x n (d + k) := by
  have e1 : (upTo x n d).take d = List.replicate d x := by unfold upTo; rw [List.take_append_of_le_length (by simp)]; simp
  have e2 : (upTo x n d).take k = List.replicate k x := by unfold upTo; rw [List.take_append_of_le_length (by simp; exact hk), List.take_replicate, Nat.min_eq_left hk]
  have e3 : (upTo x n d).drop (d + k) = List.replicate (n - (d + k)) 0 := by
    unfold upTo
    rw [List.drop_append, List.drop_replicate, List.drop_replicate, List.length_replicate, show d - (d + k) = 0 by omega, show n - d - (d + k - d) = n - (d + k) by omega]
    simp
  rw [e1, e2, e3, List.replicate_append_replicate]
  rfl
theorem upTo_all (x : Int) (n : Nat) : upTo x n n = List.replicate n x := by simp [upTo]
theorem upTo_zero (x : Int) (n : Nat) : upTo x n 0 = List.replicate n 0 := by simp [upTo]

theorem madeInts (n : Nat) : (madeCells #[Value.int .i64 0] n).toList = ints (List.replicate n 0) := by
  simp [madeCells, ints]
  apply List.ext_getElem
  · simp
  · intro i h1 h2
    simp [Nat.mod_one]

theorem run_copy_first {P : Program} {w : World} (dT elem : TypeId) (hu : P.underlying dT = some (.slice elem)) (hsz : (P.info? elem).map (·.size) = some 1)
    (g n dCap sCap : Nat) (ad : Addr) (x : Int) (hn : 0 < n) (hO : OwnV w g (ints (upTo x n 0))) (hx : w.cell? ad = some (.int .i64 x)) :
    ∃ w', (∀ ty, (Builtin.copy_ #[dT, dT] ty #[.slice (some ⟨g, 0, none⟩) n dCap, .slice (some ad) 1 sCap]).run P w = .ok (goInt 1) w') ∧ OwnV w' g (ints (upTo x n 1)) ∧ Kept (fun b => b = g) w w' := by
  have hO' := hO
  obtain ⟨c, t, hg, hc⟩ := hO
  have hul := upTo_len x (n := n) (d := 0) (by omega)
  have h0 := hc 0 (by rw [ints_length, hul]; exact hn)
  rw [ints_get _ (by rw [hul]; exact hn)] at h0
  have hsize : 0 < c.size := (Array.getElem?_eq_some_iff.1 h0).1
  have hl := run_loadCells_list (P := P) w ad [.int .i64 x] (fun j v hj => by
    match j, hj with
    | 0, hj => simp at hj; rw [← hj]; simpa [Addr.add] using hx
    | j + 1, hj => simp at hj)
  have hst := run_storeCells_at P g 0 t [.int .i64 x] 0 c w hg (by simp; omega) (fun v hv => by simp at hv; rw [hv]; rfl)
  have hset : (ints (upTo x n 0)).set 0 (.int .i64 x) = ints (upTo x n 1) := by
    rw [ints_set]
    congr 1
    obtain ⟨m, rfl⟩ : ∃ m, n = m + 1 := ⟨n - 1, by omega⟩
    simp [upTo, List.replicate_succ]
  simp only [Nat.add_zero, List.take_zero, List.nil_append, List.length_cons, List.length_nil, Nat.zero_add] at hst
  refine ⟨w.setRow g ([Value.int .i64 x] ++ c.toList.drop 1).toArray, fun ty => ?_, ?_, ⟨rfl, rfl, rfl, by simp [World.setRow], fun b _ hb => setRow_other w g b _ (fun e => hb e)⟩⟩
  · have hmin : Nat.min 1 n = 1 := Nat.min_eq_left hn
    cases hq : P.info? elem with
    | none => simp [hq] at hsz
    | some i =>
      have hi : i.size = 1 := by simpa [hq] using hsz
      have hl' : (loadCells ad 1).run P w = .ok #[.int .i64 x] w := by simpa using hl
      simp [Builtin.copy_, run_underlying hu, Builtin.lenOf, Builtin.firstCells, sizeOf, typeInfo, hq, hi, hmin, hl', hst]
  · refine ⟨_, t, setRow_heap w g _ _ t _ hg, fun i hi => ?_⟩
    rw [← hset, List.length_set] at hi
    rw [← hset]
    rcases Nat.eq_zero_or_pos i with e | e
    · subst e
      simp [List.getElem?_set_self hi]
    · rw [List.getElem?_set_ne (by omega), ← hc i hi]
      obtain ⟨j, rfl⟩ : ∃ j, i = j + 1 := ⟨i - 1, by omega⟩
      simp

set_option maxRecDepth 10000 in
set_option maxHeartbeats 1600000 in
theorem repeat1_any (b o cr : Nat) (x : Int) (n : Nat) (w : World) (hx : w.cell? ⟨b, o, none⟩ = some (.int .i64 x)) (hn0 : 0 < n) (hn : n ≤ 1048576) :
    Calls Try.prog 30 #[.slice (some ⟨b, o, none⟩) 1 cr, .int .i64 n] w fun e w' => ∃ g, e = .returned (.slice (some ⟨g, 0, none⟩) n n) ∧ w.heap.size ≤ g ∧ OwnV w' g (ints (List.replicate n x)) ∧ Below w.heap.size w w' := by
  have HM := hide (mul_any n w (by omega))
  have hmk := run_make_row' (P := Try.prog) 24 3 (.int .i64 0) 8 Try.underlying24 Try.infoIntCp rfl .i64 .i64 n (by omega) (by omega)
  have hsz : (Try.prog.info? 3).map (·.size) = some 1 := by
    obtain ⟨i0, hi, hzz⟩ := Option.map_eq_some_iff.1 Try.infoIntCp
    simp only [Prod.mk.injEq] at hzz
    rw [hi, Option.map_some, hzz.2.1]
  have hO := ownV_alloc w (madeCells #[Value.int .i64 0] n) 3
  rw [madeInts, ← upTo_zero x n] at hO
  have hA := Below.alloc1 w (.cells (madeCells #[Value.int .i64 0] n) 3)
  obtain ⟨w1, hcp, hO1, hk1⟩ := run_copy_first (P := Try.prog) 24 3 Try.underlying24 hsz w.heap.size n n cr ⟨b, o, none⟩ x hn0 hO (wcell3 hx hA)
  have HB1 := hide (hA.trans (hk1.below (B := w.heap.size) hA.size (fun b e => by omega)))
  have HO1 := hide hO1
  have w1' : IntKind.u64.wrap (n : Int) = (n : Int) := by rw [IntKind.wrap_u64]; omega
  have hn64 : (n : Int) ≤ 9223372036854775807 := by omega
  have HSZ := hide hsz
  obtain ⟨g, eg⟩ : ∃ g, g = w.heap.size := ⟨_, rfl⟩
  have hgw : w.heap.size ≤ g := by omega
  clear hO hA hO1 hk1 hsz
  go_enter Try.func30, Try.ntmps30
  go_wp2_with fail
  refine (unhide HM).mono ?_
  rintro e w' ⟨rfl, h9⟩
  have h8 := h9.symm
  subst h8
  clear h9 HM
  go_wp2
  go_loopg [8] (n - 1) (fun gg dv wr => ∃ d : Nat, 0 < d ∧ d ≤ n ∧ gg = n - d ∧ dv = .int .i64 d ∧ Below w.heap.size w wr ∧ OwnV wr w.heap.size (ints (upTo x n d)))
  case atStart => exact ⟨1, by omega, by omega, rfl, by simp, unhide HB1, unhide HO1⟩
  case round =>
    obtain ⟨d, hd0, hd, rfl, rfl, hW, hO⟩ := hrel
    clear HB1 HO1 hcp hmk
    by_cases hdn : d < n
    · obtain ⟨e, he⟩ : ∃ e, n - d = e := ⟨_, rfl⟩
      obtain ⟨k, hk⟩ : ∃ k, k = Nat.min d e := ⟨_, rfl⟩
      have hkd : k ≤ d := by rw [hk]; exact Nat.min_le_left _ _
      have hke : k ≤ e := by rw [hk]; exact Nat.min_le_right _ _
      have hk0 : 0 < k := by rw [hk]; exact Nat.lt_min.2 ⟨hd0, by omega⟩
      have hne : ¬ n = d := by omega
      have hdk : d + k ≤ n := by omega
      have HWR : Hid (IntKind.i64.wrap ((d : Int) + (k : Int)) = ((d + k : Nat) : Int)) := by show _ = _; rw [IntKind.wrap_i64]; omega
      obtain ⟨w2, hcp, hO2, hk2⟩ := run_copy_self (P := Try.prog) (w := wr.drew) 24 3 Try.underlying24 (unhide HSZ) w.heap.size d e k e n (upTo x n d) hO.drew hk (by rw [upTo_len x hd]; omega)
      rw [upTo_more x hkd (by omega)] at hO2
      have HB2 := hide (hW.trans ((Kept.drewL hk2).below (B := w.heap.size) hW.size (fun b e => by omega)))
      have HO2 := hide hO2
      have HW := hide hW
      have hdi : (d : Int) < n := by omega
      have hdi2 : (d : Int) ≤ n := by omega
      clear hO2 hk2 hW hO hk
      go_wp2
      go_region_held3 (fun _ => True) (trivial) (fail)
      go_wp2
      go_roundg (n - (d + k))
      case measure => omega
      case rel => refine ⟨d + k, by omega, hdk, rfl, ?_, unhide HB2, unhide HO2⟩; rw [unhide HWR]
    · have hdd : d = n := by omega
      subst hdd
      rw [upTo_all] at hO
      have HO := hide hO
      have HW := hide hW
      clear hO hW
      go_wp2
      go_ret
      exact ⟨_, rfl, Nat.le_refl _, unhide HO, unhide HW⟩

end Go.Proofs.Ytdpcacfgbjllhaa
