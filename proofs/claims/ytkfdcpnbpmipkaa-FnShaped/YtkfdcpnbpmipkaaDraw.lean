/- The cursor over a draw's bytes: what its functions l1Byte, l1Below, l1Once tell (bounds alone) and what they leave of memory. -/
import Derived.Test.YtkfdcpnbpmipkaaRows
import Derived.Test.YtkfdcpnbpmipkaaKept
import Derived.WalkLawsBesides
import Derived.Deep.LoopGhost
import Derived.Deep.QuietTactic
import Derived.BigQuiet
namespace Go.Proofs.Ytkfdcpnbpmipkaa
open Go.RowKit

/-- The slice value v holds n bytes in w, in blocks below B. -/
def BytesIn (B : Nat) (w : World) (v : Value) (n : Nat) : Prop :=
  ∃ ao cap, v = .slice ao n cap ∧ n ≤ cap ∧ cap ≤ maxLen ∧ ∀ i, i < n → ∃ b o x, ao = some ⟨b, o, none⟩ ∧ b < B ∧ w.cell? ⟨b, o + i, none⟩ = some (.int .u8 x) ∧ 0 ≤ x ∧ x ≤ 255

theorem BytesIn.below {B B' : Nat} {w w' : World} {v : Value} {n : Nat} (h : BytesIn B w v n) (hb : Below B' w w') (hB : B ≤ B') : BytesIn B w' v n := by
  obtain ⟨ao, cap, e, h1, h2, h3⟩ := h
  refine ⟨ao, cap, e, h1, h2, fun i hi => ?_⟩
  obtain ⟨b, o, x, e1, hlt, hc, hx⟩ := h3 i hi
  exact ⟨b, o, x, e1, hlt, (hb.cell (show b < B' by omega)).trans hc, hx⟩

/-- THE CURSOR in block cb: the bytes v, a place in them, a number. -/
def Cur (w : World) (cb : Nat) (v : Value) (n : Nat) : Prop := BytesIn cb w v n ∧ ∃ i h : Int, 0 ≤ i ∧ i ≤ n ∧ OwnV w cb [v, .int .i64 i, .int .i64 h]

theorem drewN_below (B : Nat) (w : World) (n : Nat) : Below B w (w.drewN n) := ⟨rfl, rfl, rfl, Nat.le_refl _, fun _ _ => rfl⟩

theorem Cur.drewN {w : World} {cb n : Nat} {v : Value} (h : Cur w cb v n) (q : Nat) : Cur (w.drewN q) cb v n := by
  obtain ⟨hB, i, h2, a, b, hO⟩ := h
  exact ⟨hB.below (drewN_below cb w q) (Nat.le_refl _), i, h2, a, b, hO⟩

theorem Cur.kept {T : Nat → Prop} {w w' : World} {cb n : Nat} {v : Value} (h : Cur w cb v n) (hk : Kept T w w') (hT : ∀ b, T b → cb < b) : Cur w' cb v n := by
  obtain ⟨hB, i, h2, a, b, hO⟩ := h
  refine ⟨hB.below (hk.below (Nat.le_of_lt hO.lt) (fun b hb => Nat.le_of_lt (hT b hb))) (Nat.le_refl _), i, h2, a, b, hO.kept hk (fun hb => by have := hT cb hb; omega)⟩

theorem Cur.below {w w' : World} {cb n : Nat} {v : Value} (h : Cur w cb v n) (hb : Below w.heap.size w w') : Cur w' cb v n := h.kept (T := fun _ => False) (kept_of_below hb) (fun _ h => h.elim)

theorem Cur.lt {w : World} {cb n : Nat} {v : Value} (h : Cur w cb v n) : cb < w.heap.size := by
  obtain ⟨_, _, _, _, _, hO⟩ := h
  exact hO.lt

theorem cur_step {w : World} {cb n j : Nat} {v : Value} {h2 : Int} (hB : BytesIn cb w v n) (hO : OwnV w cb [v, .int .i64 j, .int .i64 h2]) (hj : j < n) (q : Nat) : Cur ((w.drewN q).setCell ⟨cb, 1, none⟩ (.int .i64 ((j : Int) + 1))) cb v n := by
  refine ⟨hB.below ((drewN_below cb w q).setCell (Nat.le_refl _) _) (Nat.le_refl _), (j : Int) + 1, h2, by omega, by omega, ?_⟩
  have h1 : OwnV (w.drewN q) cb [v, .int .i64 j, .int .i64 h2] := hO
  exact h1.set 1 _ (by simp)

theorem and255 (a : Int) : 0 ≤ bits .and .i64 a 255 ∧ bits .and .i64 a 255 ≤ 255 := by
  have hle : (BitVec.ofInt 64 a &&& BitVec.ofInt 64 255).toNat ≤ 255 := by
    rw [BitVec.toNat_and]
    exact Nat.le_trans Nat.and_le_right (by decide)
  have e : bits .and .i64 a 255 = (((BitVec.ofInt 64 a &&& BitVec.ofInt 64 255).toNat : Nat) : Int) := by
    show IntKind.i64.wrap _ = _
    rw [IntKind.wrap_i64]
    show ((((BitVec.ofInt 64 a &&& BitVec.ofInt 64 255).toNat : Nat) : Int) + 9223372036854775808) % 18446744073709551616 - 9223372036854775808 = _
    omega
  rw [e]
  omega

end Go.Proofs.Ytkfdcpnbpmipkaa
