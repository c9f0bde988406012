/- Houses of the call's own, their blocks told; marks. -/
import Derived.Test.YtojlkdmlelgcbaaHsB
import Derived.Test.YtojlkdmlelgcbaaExactKit
namespace Go.Proofs.Ytojlkdmlelgcbaa
open Go.RowKit

/-- A house in two blocks. -/
structure Hb (w : World) (gl cap gt : Nat) (L : List LotT) (T : List TraderT) : Prop where
  lots : OwnV w gl (recCells 7 eLot L)
  trs : OwnV w gt (recCells 3 eTrader T)
  cap : L.length ≤ cap ∧ cap ≤ maxLen
  ap : gl ≠ gt
/-- The same, marked. -/
structure Hk (w : World) (gl gt n m : Nat) : Prop where
  lots : OwnV w gl ((List.range (n * 7)).map (mkLot 1))
  trs : OwnV w gt ((List.range (m * 3)).map (mkTrader (1 + 7 * (n : Int))))
section
variable {w w' : World} {gl cp gt n m : Nat} {L : List LotT} {T : List TraderT}
theorem Hb.step (h : Hb w gl cp gt L T) (hb : Below w.heap.size w w') : Hb w' gl cp gt L T := ⟨h.lots.step hb, h.trs.step hb, h.cap, h.ap⟩
theorem Hb.kept {P : Nat → Prop} (h : Hb w gl cp gt L T) (hk : Kept P w w') (h1 : ¬ P gl) (h2 : ¬ P gt) : Hb w' gl cp gt L T := ⟨h.lots.kept hk h1, h.trs.kept hk h2, h.cap, h.ap⟩
theorem Hb.inn (h : Hb w gl cp gt L T) (tk : Int) (hT : T.length ≤ 1048576) : HsIn w (.slice (some ⟨gl, 0, none⟩) L.length cp) (.slice (some ⟨gt, 0, none⟩) T.length T.length) (L, T, tk) :=
  ⟨h.lots.recsIn h.cap.1 h.cap.2, h.trs.recsIn (Nat.le_refl _) (by unfold maxLen; omega)⟩
theorem Hk.step (h : Hk w gl gt n m) (hb : Below w.heap.size w w') : Hk w' gl gt n m := ⟨h.lots.step hb, h.trs.step hb⟩
theorem Hk.kept {P : Nat → Prop} (h : Hk w gl gt n m) (hk : Kept P w w') (h1 : ¬ P gl) (h2 : ¬ P gt) : Hk w' gl gt n m := ⟨h.lots.kept hk h1, h.trs.kept hk h2⟩
end

set_option maxRecDepth 10000 in
set_option maxHeartbeats 1600000 in
theorem markHouse_b (gl cp gt tc : Nat) (L : List LotT) (T : List TraderT) (tk : Int) (w : World) (h : Hb w gl cp gt L T) (hn : L.length ≤ 1048576) (hm : T.length ≤ 1048576) :
    Calls Try.prog 25 #[vHouse (.slice (some ⟨gl, 0, none⟩) L.length cp) (.slice (some ⟨gt, 0, none⟩) T.length tc) tk, .int .i64 1] w fun e w' => e = .returned (.int .i64 (1 + 7 * (L.length : Int) + 3 * (T.length : Int))) ∧ Kept (fun b => b = gl ∨ b = gt) w w' ∧ Hk w' gl gt L.length T.length := by
  have A := Below.alloc1 w (.cells #[.slice (some ⟨gl, 0, none⟩) L.length cp, .slice (some ⟨gt, 0, none⟩) T.length tc, .int .i64 tk] 27)
  have HO := hide (ownV_alloc w #[.slice (some ⟨gl, 0, none⟩) L.length cp, .slice (some ⟨gt, 0, none⟩) T.length tc, .int .i64 tk] 27)
  have hl1 := h.lots.lt
  have hl2 := h.trs.lt
  have hap := h.ap
  have HL := hide (h.lots.step A)
  have HT := hide (h.trs.step A)
  have HK : Hid (Kept (fun b => b = gl ∨ b = gt) w (w.alloc (.cells #[.slice (some ⟨gl, 0, none⟩) L.length cp, .slice (some ⟨gt, 0, none⟩) T.length tc, .int .i64 tk] 27))) := kept_of_below A
  clear A h
  unfold vHouse
  go_enter Try.func25, Try.ntmps25
  go_wp2_with fail
  refine (markLotS_any gl cp L.length _ 1 _ (unhide HL) (by rw [recCells_length]; exact Nat.le_refl _) hn (by omega) (by omega)).mono ?_
  rintro e w1 ⟨rfl, hk, hmk⟩
  have HM := hide hmk
  replace HK := hide ((unhide HK).trans (hk.mono fun b _ x => Or.inl x))
  replace HT := hide ((unhide HT).kept hk fun x => hap x.symm)
  replace HO := hide ((unhide HO).kept hk fun x => by have x : w.heap.size = gl := x; omega)
  clear hk hmk HL
  have c1 := (unhide HO).cell (i := 1) rfl
  go_wp2_with fail
  refine (markTraderS_any gt tc T.length _ (1 + 7 * (L.length : Int)) _ (unhide HT) (by rw [recCells_length]; exact Nat.le_refl _) hm (by omega) (by omega)).mono ?_
  rintro e w2 ⟨rfl, hk, hmk⟩
  replace HM := hide ((unhide HM).kept hk hap)
  replace HK := hide ((unhide HK).trans (hk.mono fun b _ x => Or.inr x))
  have HN := hide hmk
  clear hk hmk HO HT c1
  go_wp2
  go_ret
  exact ⟨rfl, unhide HK, unhide HM, unhide HN⟩

set_option maxRecDepth 10000 in
set_option maxHeartbeats 1600000 in
theorem heldHouse_b (gl cp gt tc n m : Nat) (tk : Int) (w : World) (h : Hk w gl gt n m) (hn : n ≤ 1048576) (hm : m ≤ 1048576) :
    Calls Try.prog 26 #[vHouse (.slice (some ⟨gl, 0, none⟩) n cp) (.slice (some ⟨gt, 0, none⟩) m tc) tk, .int .i64 1] w fun e w' => e = .returned (.int .i64 (1 + 7 * (n : Int) + 3 * (m : Int))) ∧ Below w.heap.size w w' := by
  have A := Below.alloc1 w (.cells #[.slice (some ⟨gl, 0, none⟩) n cp, .slice (some ⟨gt, 0, none⟩) m tc, .int .i64 tk] 27)
  have HO := hide (ownV_alloc w #[.slice (some ⟨gl, 0, none⟩) n cp, .slice (some ⟨gt, 0, none⟩) m tc, .int .i64 tk] 27)
  have HL := hide (h.lots.step A)
  have HT := hide (h.trs.step A)
  have HW := hide A
  clear A h
  unfold vHouse
  go_enter Try.func26, Try.ntmps26
  go_wp2_with fail
  refine (heldLotS_any gl cp n 1 _ (unhide HL) hn (by omega) (by omega)).mono ?_
  rintro e w1 ⟨rfl, hb⟩
  replace HW := hide (Below.step (unhide HW) hb)
  replace HT := hide ((unhide HT).step hb)
  have c1 := OwnV.cell (OwnV.step (unhide HO) hb) (i := 1) rfl
  clear hb HL HO
  have hn0 : ¬ 1 + 7 * (n : Int) < 0 := by omega
  go_wp2_with fail
  refine (heldTraderS_any gt tc m (1 + 7 * (n : Int)) _ (unhide HT) hm (by omega) (by omega)).mono ?_
  rintro e w2 ⟨rfl, hb⟩
  replace HW := hide (Below.step (unhide HW) hb)
  clear hb HT c1
  have hn1 : ¬ 1 + 7 * (n : Int) + 3 * (m : Int) < 0 := by omega
  go_wp2
  go_ret
  exact ⟨rfl, unhide HW⟩

end Go.Proofs.Ytojlkdmlelgcbaa
