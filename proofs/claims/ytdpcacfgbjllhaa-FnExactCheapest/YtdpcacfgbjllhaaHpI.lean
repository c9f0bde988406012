/- Contracts of the frontier's Push and of container/heap's Push over it. -/
import Derived.Test.YtdpcacfgbjllhaaHpH
import Derived.Deep.RegionLaw
import Derived.Deep.AppendLies
import Derived.WideShapes
namespace Go.Proofs.Ytdpcacfgbjllhaa
open Go.RowKit

/-- The frontier at block gf, with a row or with none yet. -/
structure FrN (W : World) (B gf : Nat) (sv : Value) (n : Nat) (L : List Rc) : Prop where
  box : OwnV W gf [sv]
  row : W.ownsRow B 64 2 sv n (recCells 2 e2 L)
  len : n = L.length
  lt : gf < B
theorem FrN.of {W : World} {B gf g n cap : Nat} {L : List Rc} (h : Fr W B gf g n cap L) (hB : gf < B) : FrN W B gf (.slice (some ⟨g, 0, none⟩) n cap) n L := ⟨h.box, h.row, h.len, hB⟩
theorem FrN.fr {W : World} {B gf g n cap : Nat} {L : List Rc} (h : FrN W B gf (.slice (some ⟨g, 0, none⟩) n cap) n L) : Fr W B gf g n cap L :=
  ⟨h.box, h.row, h.len, by have := (ownsRow_ownG h.row).1; have := h.lt; omega⟩
theorem FrN.sl {W : World} {B gf n : Nat} {sv : Value} {L : List Rc} (h : FrN W B gf sv n L) : ∃ a cap, sv = .slice a n cap ∧ n ≤ cap := by
  rcases h.row.2 with ⟨hv, hn⟩ | ⟨g, cap, cur, hv, _, _, hc, _⟩
  · exact ⟨none, 0, by rw [hv, hn], by omega⟩
  · exact ⟨_, cap, hv, hc⟩
theorem FrN.got {W : World} {B gf n : Nat} {sv : Value} {L : List Rc} (h : FrN W B gf sv (n + 1) L) : ∃ g cap, sv = .slice (some ⟨g, 0, none⟩) (n + 1) cap ∧ n + 1 ≤ cap ∧ B ≤ g := by
  rcases h.row.2 with ⟨hv, hn⟩ | ⟨g, cap, cur, hv, hg, _, hc, _⟩
  · omega
  · exact ⟨g, cap, hv, hc, hg⟩
theorem FrN.own {W : World} {B gf n g : Nat} {sv : Value} {L : List Rc} (h : FrN W B gf sv n L) (hg : sv.ownBlock = some g) : B ≤ g ∧ g < W.heap.size := h.row.lt g hg
theorem FrN.below {W W' : World} {B gf n : Nat} {sv : Value} {L : List Rc} (h : FrN W B gf sv n L) (hb : Below W.heap.size W W') : FrN W' B gf sv n L := ⟨h.box.step hb, ownsRow_below h.row hb, h.len, h.lt⟩
theorem Kept.on {T T' : Nat → Prop} {w w1 w2 : World} (h : Kept T w w1) (h' : Kept T' w1 w2) (hT : ∀ k, k < w.heap.size → T' k → T k) : Kept T w w2 :=
  ⟨h'.os.trans h.os, h'.tape.trans h.tape, h'.output.trans h.output, Nat.le_trans h.size h'.size, fun k hk hn => (h'.block k (Nat.lt_of_lt_of_le hk h.size) (fun t => hn (hT k hk t))).trans (h.block k hk hn)⟩
theorem rcSnoc (L : List I2) (x y : Int) : recCells 2 e2 (L ++ [(x, y)]) = recCells 2 e2 L ++ [.int .i64 x, .int .i64 y] := by
  apply List.ext_getElem?
  intro q
  by_cases h1 : q < L.length * 2
  · rw [rcAt _ (by rw [List.length_append]; simp; omega), List.getElem?_append_left (by rw [recCells_length]; exact h1), rcAt L h1]
    have e : (L ++ [(x, y)]).getD (q / 2) default = L.getD (q / 2) default := by
      rw [List.getD_eq_getElem?_getD, List.getElem?_append_left (by omega), List.getD_eq_getElem?_getD]
    rw [e]
  · rw [List.getElem?_append_right (by rw [recCells_length]; omega), recCells_length]
    by_cases h2 : q < L.length * 2 + 2
    · rw [rcAt _ (by rw [List.length_append]; simp; omega)]
      have e : (L ++ [(x, y)]).getD (q / 2) default = (x, y) := by
        rw [List.getD_eq_getElem?_getD, List.getElem?_append_right (by omega), show q / 2 - L.length = 0 by omega]
        rfl
      rw [e]
      by_cases h3 : q = L.length * 2
      · rw [show q - L.length * 2 = 0 by omega, show q % 2 = 0 by omega]; rfl
      · rw [show q - L.length * 2 = 1 by omega, show q % 2 = 1 by omega]; rfl
    · rw [List.getElem?_eq_none (by rw [recCells_length, List.length_append]; simp; omega), List.getElem?_eq_none (by simp; omega)]
theorem cell_two_newR (w : World) (x y : Value) (t : TypeId) : ∀ j u, [x, y][j]? = some u → (w.alloc (.cells #[x, y] t)).cell? ((⟨w.heap.size, 0, none⟩ : Addr).add j) = some u := fun j u hu => by
  have h := (ownV_alloc w #[x, y] t).cell (i := j) hu
  rw [Go.WideShapes.add_plain, Nat.zero_add]
  exact h
theorem Try.infoReach : (Try.prog.info? 64).map (fun i => (i.zero, i.size, i.bytes)) = some (some (Value.agg #[.int .i64 0, .int .i64 0]), 2, 16) := by kernel_rfl
theorem Try.underReaches : Try.prog.underlying 59 = some (.slice 64) := by kernel_rfl

set_option maxRecDepth 10000 in
set_option maxHeartbeats 4000000 in
theorem frPush_any (B gf : Nat) (sv : Value) (n : Nat) (L : List Rc) (x y : Int) (w : World) (h : FrN w B gf sv n L) (hn : n ≤ 1000000) (hB : B ≤ w.heap.size) :
    Calls Try.prog 87 #[.pointer (some ⟨gf, 0, none⟩), .iface 64 (.agg #[.int .i64 x, .int .i64 y])] w fun e w' => e = .returned (.tuple #[]) ∧ ∃ g cap, FrN w' B gf (.slice (some ⟨g, 0, none⟩) (n + 1) cap) (n + 1) (L ++ [(x, y)]) ∧ (sv.ownBlock = some g ∨ w.heap.size ≤ g) ∧ Kept (fun b => b = gf ∨ sv.ownBlock = some b) w w' := by
  obtain ⟨i1, hi', hy0, hy1, hy2⟩ := info_parts Try.infoReach
  obtain ⟨a, cap, rfl, hcap⟩ := h.sl
  have HF := hide h
  have hl := h.len
  have HL := hide hl
  have hlt := h.box.lt
  have hgB := h.lt
  have c0 := h.box.cell (i := 0) rfl
  have fz := h.box.frozen 0
  have c0a : ∀ o, (w.alloc o).cell? ⟨gf, 0, none⟩ = some (.slice a n cap) := fun o => wcell3 c0 (Below.alloc1 w o)
  have c0d : w.drew.cell? ⟨gf, 0, none⟩ = some (.slice a n cap) := c0
  have hTA : ∀ W, (Instr.typeAssert (.iface 64 (.agg #[.int .i64 x, .int .i64 y])) 20 64 false).run Try.prog W = .ok (.agg #[.int .i64 x, .int .i64 y]) W := fun W => assertReach _ W
  clear h hl
  go_enter Try.func87, Try.ntmps87
  go_wp2
  go_region_law (refine step_append_lies _ (by rfl) (.tmp 8) (.tmp 11) 59 (by rfl) B 64 i1 _ 2 16 Try.underReaches hi' hy0 hy1 hy2 rfl (by decide) (.slice a n cap) n (recCells 2 e2 L) (by rfl) ((unhide HF).row.alloc _).drew ⟨w.heap.size, 0, none⟩ 1 1 [.int .i64 x, .int .i64 y] (by rfl) (by rfl) (cell_two_newR _ _ _ _) (by simp [Value.oneCell']) (by omega) (by unfold maxLen; omega) (by omega) (by simp; omega) (w.heap.size + 1) (by simp) ?_; intro g4 cap4 w2 hown' hgrow hat hlt4; have HKA : Hid (Kept (fun b => (Value.slice a n cap).ownBlock = some b) w w2) := ((kept_of_below (((Below.refl w.heap.size w).alloc (Nat.le_refl _) _).drew)).grown hgrow (fun k hk => hk)); have q3 := (unhide HF).box.kept (unhide HKA) (fun e => by have := ((unhide HF).own e).1; omega); have q4 := q3.cell (i := 0) rfl; have q5 := q3.frozen 0; have HQ3 := hide q3; have HO3 := hide hown'; have HAT : Hid ((Value.slice a n cap).ownBlock = some g4 ∨ w.heap.size ≤ g4) := (hat.imp id (fun e => by omega)); clear hown' hgrow hat q3)
  all_goals
    go_wp2
    go_end0
    have hg4 := (ownsRow_ownG (unhide HO3)).1
    refine ⟨rfl, g4, cap4, ⟨(unhide HQ3).set 0 _ (by simp), ?_, by rw [List.length_append, ← unhide HL]; rfl, hgB⟩, unhide HAT, ?_⟩
    · rw [rcSnoc]
      refine ownsRow_setCell_other (unhide HO3) (a := ⟨gf, 0, none⟩) ?_ _
      simp only [Value.ownBlock, ne_eq, Option.some.injEq]
      omega
    · exact Kept.setCell (T := fun b => b = gf ∨ (Value.slice a n cap).ownBlock = some b) ((unhide HKA).mono (fun k _ e => Or.inr e)) (p := ⟨gf, 0, none⟩) (Or.inl rfl) _

set_option maxRecDepth 10000 in
set_option maxHeartbeats 4000000 in
theorem heapPush_any (B gf : Nat) (sv : Value) (n : Nat) (L : List Rc) (x y : Int) (w : World) (h : FrN w B gf sv n L) (hh : Hp L n) (hn : n + 1 ≤ 1000000) (hB : B ≤ w.heap.size) :
    Calls Try.prog 32 #[.iface 57 (.pointer (some ⟨gf, 0, none⟩)), .iface 64 (.agg #[.int .i64 x, .int .i64 y])] w fun e w' => e = .returned (.tuple #[]) ∧ ∃ g cap L', FrN w' B gf (.slice (some ⟨g, 0, none⟩) (n + 1) cap) (n + 1) L' ∧ Hp L' (n + 1) ∧ (∀ e, e ∈ L' ↔ e ∈ L ∨ e = (x, y)) ∧ (sv.ownBlock = some g ∨ w.heap.size ≤ g) ∧ Kept (fun b => b = gf ∨ sv.ownBlock = some b) w w' := by
  have hl := h.len
  have hgB := h.lt
  have HP := hide (frPush_any B gf sv n L x y w h (by omega) hB)
  have hM := methPush w gf
  have HU : Hid (HpUp (L ++ [(x, y)]) (n + 1) n) := by
    show HpUp _ _ _
    subst hl
    exact hpUp_push hh (x, y)
  have i1 : IntKind.i64.wrap (((n : Int) + 1) - 1) = (n : Int) := by rw [IntKind.wrap_i64]; omega
  have i2 : IntKind.i64.wrap (((n + 1 : Nat) : Int) - 1) = (n : Int) := by rw [IntKind.wrap_i64]; omega
  clear h hh hl
  go_enter Try.func32, Try.ntmps32
  go_wp2_with fail
  refine (unhide HP).mono ?_
  rintro e w1 ⟨rfl, g, cap, hf, hat, hk⟩
  have HF := hide hf
  have HAT := hide hat
  have HK := hide hk
  have c1 := hf.box.cell (i := 0) rfl
  have hM2 := methLen c1
  have HLE := hide (lenR_any (some ⟨g, 0, none⟩) (n + 1) cap w1)
  have HUP := hide (up_any B gf g (n + 1) cap _ n w1 hf.fr (by omega) (unhide HU) hn)
  clear hf hat hk HP hM
  go_wp2_with fail
  refine (unhide HLE).mono ?_
  rintro e w2 ⟨rfl, h9⟩
  subst h9
  clear HLE
  go_wp2_with fail
  refine (unhide HUP).mono ?_
  rintro e w3 ⟨rfl, L', hp, ha⟩
  have HPP := hide hp
  have HA := hide ha
  clear hp ha HUP
  go_wp2
  go_end0
  refine ⟨rfl, g, cap, L', FrN.of (unhide HA).fr hgB, unhide HPP, fun e => ?_, unhide HAT, (unhide HK).on (unhide HA).kept (fun k hk e => ?_)⟩
  · rw [(unhide HA).mem e, List.mem_append, List.mem_singleton]
  · rcases unhide HAT with h1 | h1
    · exact Or.inr (by rw [e]; exact h1)
    · omega

end Go.Proofs.Ytdpcacfgbjllhaa
