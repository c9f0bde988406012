/- Contract of container/heap's up over the program's frontier. -/
import Derived.Test.YtdpcacfgbjllhaaHpC
namespace Go.Proofs.Ytdpcacfgbjllhaa
open Go.RowKit

theorem Fr.lt {W : World} {B gf g n cap : Nat} {L : List Rc} (h : Fr W B gf g n cap L) : gf < W.heap.size ∧ g < W.heap.size := ⟨h.box.lt, (ownsRow_ownG h.row).2.lt⟩
theorem Fr.swap {W W' : World} {B gf g n cap : Nat} {L : List Rc} (h : Fr W B gf g n cap L) {i j : Nat} (hr : W'.ownsRow B 64 2 (.slice (some ⟨g, 0, none⟩) n cap) n (recCells 2 e2 (swp L i j))) (hk : Kept (fun b => b = g) W W') : Fr W' B gf g n cap (swp L i j) :=
  ⟨h.box.kept hk h.ne, hr, by rw [swp_len]; exact h.len, h.ne⟩
/-- What the heap's steps leave: the same reaches, otherwise ordered; no other memory has turned. -/
structure HpAns (w w' : World) (B gf g n cap : Nat) (L L' : List Rc) : Prop where
  fr : Fr w' B gf g n cap L'
  mem : ∀ x, x ∈ L' ↔ x ∈ L
  kept : Kept (fun b => b = g) w w'

set_option maxRecDepth 10000 in
set_option maxHeartbeats 8000000 in
theorem up_any (B gf g n cap : Nat) (L0 : List Rc) (j0 : Nat) (w : World) (h : Fr w B gf g n cap L0) (hj : j0 < n) (hu : HpUp L0 n j0) (hn : n ≤ 1000000) :
    Calls Try.prog 58 #[.iface 57 (.pointer (some ⟨gf, 0, none⟩)), .int .i64 (j0 : Int)] w fun e w' => e = .returned (.tuple #[]) ∧ ∃ L', Hp L' n ∧ HpAns w w' B gf g n cap L0 L' := by
  have HF0 := hide (⟨h, fun x => Iff.rfl, Kept.refl _ _⟩ : HpAns w w B gf g n cap L0 L0)
  have HU0 := hide hu
  clear h hu
  go_enter Try.func58, Try.ntmps58
  go_wp2_with fail
  go_loopg [1] j0 (fun g' jv wr => ∃ (j : Nat) (L : List Rc), j < n ∧ g' = j ∧ jv = .int .i64 (j : Int) ∧ Hid (HpAns w wr B gf g n cap L0 L) ∧ Hid (HpUp L n j))
  case atStart => exact ⟨j0, L0, hj, rfl, rfl, HF0, HU0⟩
  case round =>
    clear HF0 HU0 hj
    obtain ⟨j, L, hj, eg, rfl, HF, HU⟩ := hrel
    have HG := hide eg
    clear eg
    have c0 := (unhide HF).fr.box.cell (i := 0) rfl
    have hlen := (unhide HF).fr.len
    have HL := hide hlen
    have hl1 : n ≤ L.length := by omega
    clear hlen
    by_cases h0 : j = 0
    · have HP := hide ((unhide HU).stop (Or.inl h0))
      subst h0
      go_wp2_with fail
      go_end0
      exact ⟨rfl, L, unhide HP, unhide HF⟩
    obtain ⟨i, ei⟩ : ∃ i, i = (j - 1) / 2 := ⟨_, rfl⟩
    have q1 : IntKind.i64.wrap ((j : Int) - 1) = (j : Int) - 1 := by rw [IntKind.wrap_i64]; omega
    have q2 : Int.tdiv ((j : Int) - 1) 2 = (i : Int) := by rw [Int.tdiv_eq_ediv_of_nonneg (by omega)]; omega
    have q3 : IntKind.i64.wrap (i : Int) = (i : Int) := by rw [IntKind.wrap_i64]; omega
    have d1 : ((i : Int) == (j : Int)) = false := by simp; omega
    have d1' : (i == j) = false := by simp; omega
    have hM := methLess c0
    have HLS := hide (less_any _ L j i wr (unhide HF).fr.recs (by omega) (by omega))
    have hin : i < n := by omega
    have HEI := hide ei
    have HJ0 := hide h0
    clear ei h0
    go_wp2_with fail
    refine (unhide HLS).mono ?_
    rintro e w1 ⟨rfl, hb⟩
    have HF1 : Hid (HpAns w w1 B gf g n cap L0 L) := ⟨(unhide HF).fr.bd hb, (unhide HF).mem, (unhide HF).kept.trans (kept_of_below hb.below)⟩
    clear hb HLS hM c0 HF
    by_cases hlt : rlt (L.getD j (0, 0)) (L.getD i (0, 0))
    case neg =>
      have HP := hide ((unhide HU).stop (Or.inr (by rw [← unhide HEI]; exact hlt)))
      rw [decide_eq_false hlt]
      go_wp2_with fail
      go_end0
      exact ⟨rfl, L, unhide HP, unhide HF1⟩
    rw [decide_eq_true hlt]
    have c1 := (unhide HF1).fr.box.cell (i := 0) rfl
    have hM2 := methSwap c1
    have HSW := hide (swap_any B g n cap L i j w1 (unhide HF1).fr.row (unhide HL) (by omega) (by omega))
    have HUN : Hid (HpUp (swp L i j) n i) := by have h := (unhide HU).next hl1 (by have := unhide HJ0; omega) hj (by rw [← unhide HEI]; exact hlt); rw [← unhide HEI] at h; exact h
    have HMEM := hide (fun x => swp_mem (L := L) (i := i) (j := j) (by omega) (by omega) x)
    go_wp2_with fail
    refine (unhide HSW).mono ?_
    rintro e w2 ⟨rfl, hr, hk⟩
    have HF2 : Hid (HpAns w w2 B gf g n cap L0 (swp L i j)) := ⟨(unhide HF1).fr.swap hr hk, fun x => (unhide HMEM x).trans ((unhide HF1).mem x), (unhide HF1).kept.trans hk⟩
    have hij : i < j := by have := unhide HEI; have := unhide HJ0; omega
    clear hr hk HSW hM2 c1
    go_wp2_with fail
    go_roundg i
    case measure => have := unhide HG; omega
    case rel => exact ⟨i, swp L i j, hin, rfl, rfl, HF2, HUN⟩

end Go.Proofs.Ytdpcacfgbjllhaa
