/- Contract of the frontier's cheapest. -/
import Derived.Test.YtdpcacfgbjllhaaHpG
namespace Go.Proofs.Ytdpcacfgbjllhaa
open Go.RowKit

theorem Fr.other {W : World} {B gf g n cap : Nat} {L : List Rc} (h : Fr W B gf g n cap L) {b : Nat} (h1 : b ≠ gf) (h2 : b ≠ g) (i : Nat) (u : Value) : Fr (W.setCell ⟨b, i, none⟩ u) B gf g n cap L :=
  ⟨h.box.other (a := ⟨b, i, none⟩) (fun e => h1 e.symm) u, ownsRow_setCell_other h.row (a := ⟨b, i, none⟩) (by simp only [Value.ownBlock, ne_eq, Option.some.injEq]; exact fun e => h2 e.symm) u, h.len, h.ne⟩
theorem Kept.fresh {T : Nat → Prop} {w w' : World} (h : Kept T w w') {b : Nat} (hb : w.heap.size ≤ b) (i : Nat) (u : Value) : Kept T w (w'.setCell ⟨b, i, none⟩ u) :=
  ⟨h.os, h.tape, h.output, by rw [Go.Deep.nblk_setCell]; exact h.size, fun k hk hn => by rw [Go.Deep.blk_setCell_other w' ⟨b, i, none⟩ u k (by show k ≠ b; omega)]; exact h.block k hk hn⟩

set_option maxRecDepth 100000 in
theorem assertReach (v : Value) (W : World) : (Instr.typeAssert (.iface 64 v) 20 64 false).run Try.prog W = .ok v W := by
  first | kernel_rfl | simp [Instr.typeAssert, go_sem]

set_option maxRecDepth 10000 in
set_option maxHeartbeats 8000000 in
theorem frCheapest_any (B gf g n cap : Nat) (L : List Rc) (w : World) (h : Fr w B gf g (n + 1) cap L) (hh : Hp L (n + 1)) (hn : n + 1 ≤ 1000000) (hc1 : n + 1 ≤ cap) :
    Calls Try.prog 34 #[.pointer (some ⟨gf, 0, none⟩)] w fun e w' => e = .returned (.agg #[.int .i64 (L.getD 0 (0, 0)).1, .int .i64 (L.getD 0 (0, 0)).2]) ∧ ∃ L', Hp L' n ∧ (∀ x, x ∈ L ↔ x ∈ L' ∨ x = L.getD 0 (0, 0)) ∧ Fr w' B gf g n cap L' ∧ Kept (fun b => b = g ∨ b = gf) w w' := by
  have A := Below.alloc1 w (.cells #[.int .i64 0, .int .i64 0] 64)
  have O := ownV_alloc w #[.int .i64 0, .int .i64 0] 64
  have hlt := h.lt
  have HP := hide (heapPop_any B gf g n cap L _ (h.bd ⟨A, Nat.le_refl _⟩) hh hn hc1)
  have HA := hide A
  have HO := hide O
  obtain ⟨hl1, hl2⟩ := hlt
  clear h hh A O
  generalize (L.getD 0 (0, 0)) = z at *
  obtain ⟨x, y⟩ := z
  dsimp only at *
  go_enter Try.func34, Try.ntmps34
  go_wp2_with fail
  refine (unhide HP).mono ?_
  rintro e w1 ⟨rfl, L', hp, hmem, hf, hk⟩
  have HO1 := hide ((unhide HO).kept hk (by omega))
  have a0 := (unhide HO1).cell (i := 0) rfl
  have a1 := (unhide HO1).cell (i := 1) rfl
  have fz := (unhide HO1).frozen
  have HH := hide hp
  have HM := hide hmem
  have HF := hide hf
  have HK := hide ((kept_of_below (T := fun b => b = g ∨ b = gf) (unhide HA)).trans hk)
  clear hp hmem hf hk HP
  have hTA := assertReach (.agg #[.int .i64 x, .int .i64 y]) w1
  have HO2 := hide (((unhide HO1).set 0 (.int .i64 x) (by simp)).set 1 (.int .i64 y) (by simp))
  have k0 := (unhide HO2).cell (i := 0) rfl
  have k1 := (unhide HO2).cell (i := 1) rfl
  have HF2 := hide (((unhide HF).other (b := w.heap.size) (by omega) (by omega) 0 (.int .i64 x)).other (b := w.heap.size) (by omega) (by omega) 1 (.int .i64 y))
  have HK2 := hide (((unhide HK).fresh (b := w.heap.size) (Nat.le_refl _) 0 (.int .i64 x)).fresh (b := w.heap.size) (Nat.le_refl _) 1 (.int .i64 y))
  go_wp2
  refine bodyPost_ret (v := .agg #[.int .i64 x, .int .i64 y]) (by simp [results, Try.results34, go_sem, k0, k1]) rfl ⟨rfl, L', unhide HH, unhide HM, unhide HF2, unhide HK2⟩

end Go.Proofs.Ytdpcacfgbjllhaa
