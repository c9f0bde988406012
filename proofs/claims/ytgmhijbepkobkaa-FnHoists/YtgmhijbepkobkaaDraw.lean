/- The cursor over a draw's bytes: what its functions l1Byte, l1Below, l1Once tell (bounds alone) and what they leave of memory. -/
import Derived.Test.YtgmhijbepkobkaaRows
import Derived.Test.YtgmhijbepkobkaaKept
import Derived.WalkLawsBesides
import Derived.Deep.LoopGhost
import Derived.Deep.QuietTactic
import Derived.BigQuiet
namespace Go.Proofs.Ytgmhijbepkobkaa
open Go.RowKit

/-- The slice value v holds n bytes in w, in blocks below B. -/
def BytesIn (B : Nat) (w : World) (v : Value) (n : Nat) : Prop :=
  ∃ ao cap, v = .slice ao n cap ∧ n ≤ cap ∧ cap ≤ maxLen ∧ ∀ i, i < n → ∃ b o x, ao = some ⟨b, o, none⟩ ∧ b < B ∧ w.cell? ⟨b, o + i, none⟩ = some (.int .u8 x) ∧ 0 ≤ x ∧ x ≤ 255

theorem BytesIn.below {B B' : Nat} {w w' : World} {v : Value} {n : Nat} (h : BytesIn B w v n) (hb : Below B' w w') (hB : B ≤ B') : BytesIn B w' v n := by
  obtain ⟨ao, cap, e, h1, h2, h3⟩ := h
  refine ⟨ao, cap, e, h1, h2, fun i hi => ?_⟩
  obtain ⟨b, o, x, e1, hlt, hc, hx⟩ := h3 i hi
  exact ⟨b, o, x, e1, hlt, (hb.cell (show b < B' by omega)).trans hc, hx⟩

/-- THE CURSOR in block cb: the bytes v, a place in them, a number. -/
def Cur (w : World) (cb : Nat) (v : Value) (n : Nat) : Prop := BytesIn cb w v n ∧ ∃ i h : Int, 0 ≤ i ∧ i ≤ n ∧ OwnV w cb [v, .int .i64 i, .int .i64 h]

theorem drewN_below (B : Nat) (w : World) (n : Nat) : Below B w (w.drewN n) := ⟨rfl, rfl, rfl, Nat.le_refl _, fun _ _ => rfl⟩

theorem Cur.drewN {w : World} {cb n : Nat} {v : Value} (h : Cur w cb v n) (q : Nat) : Cur (w.drewN q) cb v n := by
  obtain ⟨hB, i, h2, a, b, hO⟩ := h
  exact ⟨hB.below (drewN_below cb w q) (Nat.le_refl _), i, h2, a, b, hO⟩

theorem Cur.kept {T : Nat → Prop} {w w' : World} {cb n : Nat} {v : Value} (h : Cur w cb v n) (hk : Kept T w w') (hT : ∀ b, T b → cb < b) : Cur w' cb v n := by
  obtain ⟨hB, i, h2, a, b, hO⟩ := h
  refine ⟨hB.below (hk.below (Nat.le_of_lt hO.lt) (fun b hb => Nat.le_of_lt (hT b hb))) (Nat.le_refl _), i, h2, a, b, hO.kept hk (fun hb => by have := hT cb hb; omega)⟩

theorem Cur.below {w w' : World} {cb n : Nat} {v : Value} (h : Cur w cb v n) (hb : Below w.heap.size w w') : Cur w' cb v n := h.kept (T := fun _ => False) (kept_of_below hb) (fun _ h => h.elim)

theorem Cur.lt {w : World} {cb n : Nat} {v : Value} (h : Cur w cb v n) : cb < w.heap.size := by
  obtain ⟨_, _, _, _, _, hO⟩ := h
  exact hO.lt

theorem cur_step {w : World} {cb n j : Nat} {v : Value} {h2 : Int} (hB : BytesIn cb w v n) (hO : OwnV w cb [v, .int .i64 j, .int .i64 h2]) (hj : j < n) (q : Nat) : Cur ((w.drewN q).setCell ⟨cb, 1, none⟩ (.int .i64 ((j : Int) + 1))) cb v n := by
  refine ⟨hB.below ((drewN_below cb w q).setCell (Nat.le_refl _) _) (Nat.le_refl _), (j : Int) + 1, h2, by omega, by omega, ?_⟩
  have h1 : OwnV (w.drewN q) cb [v, .int .i64 j, .int .i64 h2] := hO
  exact h1.set 1 _ (by simp)

theorem and255 (a : Int) : 0 ≤ bits .and .i64 a 255 ∧ bits .and .i64 a 255 ≤ 255 := by
  have hle : (BitVec.ofInt 64 a &&& BitVec.ofInt 64 255).toNat ≤ 255 := by
    rw [BitVec.toNat_and]
    exact Nat.le_trans Nat.and_le_right (by decide)
  have e : bits .and .i64 a 255 = (((BitVec.ofInt 64 a &&& BitVec.ofInt 64 255).toNat : Nat) : Int) := by
    show IntKind.i64.wrap _ = _
    rw [IntKind.wrap_i64]
    show ((((BitVec.ofInt 64 a &&& BitVec.ofInt 64 255).toNat : Nat) : Int) + 9223372036854775808) % 18446744073709551616 - 9223372036854775808 = _
    omega
  rw [e]
  omega

set_option maxHeartbeats 800000 in
theorem l1Byte_any (cb n : Nat) (v : Value) (w : World) (h : Cur w cb v n) (hn : n ≤ 1048576) :
    Calls Try.prog 62 #[.pointer (some ⟨cb, 0, none⟩)] w fun e w' => ∃ x, e = .returned (.int .i64 x) ∧ 0 ≤ x ∧ x ≤ 255 ∧ Cur w' cb v n ∧ Kept (fun b => b = cb) w w' := by
  obtain ⟨hB, i, hh, hi0, hi1, hO⟩ := h
  obtain ⟨j, rfl⟩ := Int.eq_ofNat_of_zero_le hi0
  clear hi0
  have HB := hide hB
  obtain ⟨ao, cap, rfl, hl, hm, hc⟩ := hB
  have HC := hide hc
  unfold maxLen at hm
  have c0 := hO.cell (i := 0) rfl
  have c1 := hO.cell (i := 1) rfl
  have c2 := hO.cell (i := 2) rfl
  have f1 := hO.frozen 1
  have f2 := hO.frozen 2
  have HO := hide hO
  clear hc hO
  go_enter Try.func62, Try.ntmps62
  go_wp2
  obtain ⟨h2, eh2⟩ : ∃ h2, h2 = wrap64 (wrap64 (hh * 6364136223846793005) + 1442695040888963407) := ⟨_, rfl⟩
  rw [← eh2]
  clear eh2
  obtain ⟨W1, eW⟩ : ∃ W, W = w.setCell ⟨cb, 2, none⟩ (.int .i64 h2) := ⟨_, rfl⟩
  rw [← eW]
  have hO1 : OwnV W1 cb [.slice ao n cap, .int .i64 j, .int .i64 h2] := by rw [eW]; exact (unhide HO).set 2 _ (by simp)
  have HK1 : Hid (Kept (fun b => b = cb) w W1) := by show Kept _ _ _; rw [eW]; exact (Kept.refl (fun b => b = cb) w).setCell (p := ⟨cb, 2, none⟩) rfl _
  have HB1 : Hid (BytesIn cb W1 (.slice ao n cap) n) := (unhide HB).below ((unhide HK1).below (Nat.le_of_lt hO1.lt |> fun h => by rw [eW] at h; simpa [World.setCell] using h) (fun b e => by omega)) (Nat.le_refl _)
  clear c0 c1 c2 f1 f2 eW
  have c0 := hO1.cell (i := 0) rfl
  have c1 := hO1.cell (i := 1) rfl
  have c2 := hO1.cell (i := 2) rfl
  have f1 := hO1.frozen 1
  have HO1 := hide hO1
  clear hO1
  go_quiet (fail)
  go_wp2
  have hx := and255 (bits BinOp.xor IntKind.i64 (h2 / 8589934592) (h2 / 35184372088832))
  generalize bits BinOp.and IntKind.i64 (bits BinOp.xor IntKind.i64 (h2 / 8589934592) (h2 / 35184372088832)) 255 = x0 at *
  generalize bits BinOp.xor IntKind.i64 (h2 / 8589934592) (h2 / 35184372088832) = x1 at *
  obtain ⟨hx1, hx2⟩ := hx
  by_cases hjn : j < n
  · have hjn' : (j : Int) < (n : Int) := by omega
    obtain ⟨ao', cap', ev, _, _, hcs⟩ := unhide HB1
    simp only [Value.slice.injEq, true_and] at ev
    obtain ⟨rfl, rfl⟩ := ev
    obtain ⟨b, o, y, rfl, hlt, hcell, hy1, hy2⟩ := hcs j hjn
    clear hcs
    go_quiet (fail)
    go_wp2
    go_quiet (fail)
    have hz := and255 (x0 + y)
    generalize bits BinOp.and IntKind.i64 (x0 + y) 255 = z at *
    obtain ⟨hz1, hz2⟩ := hz
    go_wp2
    go_ret
    exact ⟨z, rfl, hz1, hz2, cur_step (unhide HB1) (unhide HO1) hjn _, ((unhide HK1).trans (kept_of_below (drewN_below _ _ _))).setCell rfl _⟩
  · have hjn' : decide ((j : Int) < (n : Int)) = false := by simp; omega
    go_quiet (fail)
    go_wp2
    go_ret
    have hcur : Cur W1 cb (.slice ao n cap) n := ⟨unhide HB1, j, h2, by omega, hi1, unhide HO1⟩
    exact ⟨x0, rfl, hx1, hx2, (hcur.drewN _).drewN _, ((unhide HK1).trans (kept_of_below (drewN_below _ _ _))).trans (kept_of_below (drewN_below _ _ _))⟩

set_option maxHeartbeats 800000 in
theorem l1Below_any (cb n : Nat) (v : Value) (k : Int) (w : World) (h : Cur w cb v n) (hn : n ≤ 1048576) (hk0 : 1 ≤ k) (hk1 : k ≤ 256) :
    Calls Try.prog 52 #[.pointer (some ⟨cb, 0, none⟩), .int .i64 k] w fun e w' => ∃ x, e = .returned (.int .i64 x) ∧ 0 ≤ x ∧ x < k ∧ Cur w' cb v n ∧ Kept (fun b => b = cb) w w' := by
  have HB := hide (l1Byte_any cb n v w h hn)
  clear h
  go_enter Try.func52, Try.ntmps52
  go_wp2_with fail
  refine (unhide HB).mono ?_
  rintro e w1 ⟨x, rfl, hx0, hx1, hc, hK⟩
  have HC := hide hc
  have HK := hide hK
  clear hc hK HB
  go_wp2
  go_ret
  exact ⟨_, rfl, Int.emod_nonneg _ (by omega), Int.emod_lt_of_pos _ (by omega), unhide HC, unhide HK⟩

end Go.Proofs.Ytgmhijbepkobkaa
