/- FnFewest: draws and the law's walk, laid together by wip/mkfwz.py. No statement about the program stands here but the law's. -/
import Derived.Test.YtdkfleodgdpckaaRows
import Derived.Test.YtdkfleodgdpckaaKept
import Derived.WalkLawsBesides
import Derived.Deep.LoopGhost
import Derived.Deep.QuietTactic
import Derived.BigQuiet
import Derived.Test.YtdkfleodgdpckaaBase
import Derived.Test.YtdkfleodgdpckaaExactKit
import Derived.Test.YtdkfleodgdpckaaOwnInts
import Derived.Test.YtdkfleodgdpckaaBxC
import Derived.Test.YtdkfleodgdpckaaWalkH
import Derived.Test.YtdkfleodgdpckaaWalkL
import Derived.Laws.BytesArg
import Derived.Laws.Strings2
import Derived.Deep.AppendLies
import Derived.Deep.RegionLaw
import Derived.ArgAppend
import Derived.Laws.IdiomStrings
import Derived.Deep.DeepMust
import Derived.Test.YtdkfleodgdpckaaRBox
import Derived.Test.YtdkfleodgdpckaaStoP
import Derived.Test.YtdkfleodgdpckaaRStow
import Derived.Test.YtdkfleodgdpckaaRowB
import Derived.Test.YtdkfleodgdpckaaRHatch
import Derived.Test.YtdkfleodgdpckaaStoU
import Derived.ProofKit
import Derived.OpenShut
import Derived.ShutString
import Derived.ChangeOld
import Derived.Below
import Derived.Test.YtdkfleodgdpckaaStoZ
import Derived.Test.YtdkfleodgdpckaaStoOl
namespace Go.Proofs.Ytdkfleodgdpckaa
section
open Go.RowKit

/-- The slice value v holds n bytes in w, in blocks below B. -/
def BytesIn (B : Nat) (w : World) (v : Value) (n : Nat) : Prop :=
  ∃ ao cap, v = .slice ao n cap ∧ n ≤ cap ∧ cap ≤ maxLen ∧ ∀ i, i < n → ∃ b o x, ao = some ⟨b, o, none⟩ ∧ b < B ∧ w.cell? ⟨b, o + i, none⟩ = some (.int .u8 x) ∧ 0 ≤ x ∧ x ≤ 255

theorem BytesIn.below {B B' : Nat} {w w' : World} {v : Value} {n : Nat} (h : BytesIn B w v n) (hb : Below B' w w') (hB : B ≤ B') : BytesIn B w' v n := by
  obtain ⟨ao, cap, e, h1, h2, h3⟩ := h
  refine ⟨ao, cap, e, h1, h2, fun i hi => ?_⟩
  obtain ⟨b, o, x, e1, hlt, hc, hx⟩ := h3 i hi
  exact ⟨b, o, x, e1, hlt, (hb.cell (show b < B' by omega)).trans hc, hx⟩

/-- THE CURSOR in block cb: the bytes v, a place in them, a number. -/
def Cur (w : World) (cb : Nat) (v : Value) (n : Nat) : Prop := BytesIn cb w v n ∧ ∃ i h : Int, 0 ≤ i ∧ i ≤ n ∧ OwnV w cb [v, .int .i64 i, .int .i64 h]

theorem drewN_below (B : Nat) (w : World) (n : Nat) : Below B w (w.drewN n) := ⟨rfl, rfl, rfl, Nat.le_refl _, fun _ _ => rfl⟩

theorem Cur.drewN {w : World} {cb n : Nat} {v : Value} (h : Cur w cb v n) (q : Nat) : Cur (w.drewN q) cb v n := by
  obtain ⟨hB, i, h2, a, b, hO⟩ := h
  exact ⟨hB.below (drewN_below cb w q) (Nat.le_refl _), i, h2, a, b, hO⟩

theorem Cur.kept {T : Nat → Prop} {w w' : World} {cb n : Nat} {v : Value} (h : Cur w cb v n) (hk : Kept T w w') (hT : ∀ b, T b → cb < b) : Cur w' cb v n := by
  obtain ⟨hB, i, h2, a, b, hO⟩ := h
  refine ⟨hB.below (hk.below (Nat.le_of_lt hO.lt) (fun b hb => Nat.le_of_lt (hT b hb))) (Nat.le_refl _), i, h2, a, b, hO.kept hk (fun hb => by have := hT cb hb; omega)⟩

theorem Cur.below {w w' : World} {cb n : Nat} {v : Value} (h : Cur w cb v n) (hb : Below w.heap.size w w') : Cur w' cb v n := h.kept (T := fun _ => False) (kept_of_below hb) (fun _ h => h.elim)

theorem Cur.lt {w : World} {cb n : Nat} {v : Value} (h : Cur w cb v n) : cb < w.heap.size := by
  obtain ⟨_, _, _, _, _, hO⟩ := h
  exact hO.lt

theorem cur_step {w : World} {cb n j : Nat} {v : Value} {h2 : Int} (hB : BytesIn cb w v n) (hO : OwnV w cb [v, .int .i64 j, .int .i64 h2]) (hj : j < n) (q : Nat) : Cur ((w.drewN q).setCell ⟨cb, 1, none⟩ (.int .i64 ((j : Int) + 1))) cb v n := by
  refine ⟨hB.below ((drewN_below cb w q).setCell (Nat.le_refl _) _) (Nat.le_refl _), (j : Int) + 1, h2, by omega, by omega, ?_⟩
  have h1 : OwnV (w.drewN q) cb [v, .int .i64 j, .int .i64 h2] := hO
  exact h1.set 1 _ (by simp)

theorem and255 (a : Int) : 0 ≤ bits .and .i64 a 255 ∧ bits .and .i64 a 255 ≤ 255 := by
  have hle : (BitVec.ofInt 64 a &&& BitVec.ofInt 64 255).toNat ≤ 255 := by
    rw [BitVec.toNat_and]
    exact Nat.le_trans Nat.and_le_right (by decide)
  have e : bits .and .i64 a 255 = (((BitVec.ofInt 64 a &&& BitVec.ofInt 64 255).toNat : Nat) : Int) := by
    show IntKind.i64.wrap _ = _
    rw [IntKind.wrap_i64]
    show ((((BitVec.ofInt 64 a &&& BitVec.ofInt 64 255).toNat : Nat) : Int) + 9223372036854775808) % 18446744073709551616 - 9223372036854775808 = _
    omega
  rw [e]
  omega

set_option maxHeartbeats 800000 in
theorem l1Byte_any (cb n : Nat) (v : Value) (w : World) (h : Cur w cb v n) (hn : n ≤ 1048576) :
    Calls Try.prog 96 #[.pointer (some ⟨cb, 0, none⟩)] w fun e w' => ∃ x, e = .returned (.int .i64 x) ∧ 0 ≤ x ∧ x ≤ 255 ∧ Cur w' cb v n ∧ Kept (fun b => b = cb) w w' := by
  obtain ⟨hB, i, hh, hi0, hi1, hO⟩ := h
  obtain ⟨j, rfl⟩ := Int.eq_ofNat_of_zero_le hi0
  clear hi0
  have HB := hide hB
  obtain ⟨ao, cap, rfl, hl, hm, hc⟩ := hB
  have HC := hide hc
  unfold maxLen at hm
  have c0 := hO.cell (i := 0) rfl
  have c1 := hO.cell (i := 1) rfl
  have c2 := hO.cell (i := 2) rfl
  have f1 := hO.frozen 1
  have f2 := hO.frozen 2
  have HO := hide hO
  clear hc hO
  go_enter Try.func96, Try.ntmps96
  go_wp2
  obtain ⟨h2, eh2⟩ : ∃ h2, h2 = wrap64 (wrap64 (hh * 6364136223846793005) + 1442695040888963407) := ⟨_, rfl⟩
  rw [← eh2]
  clear eh2
  obtain ⟨W1, eW⟩ : ∃ W, W = w.setCell ⟨cb, 2, none⟩ (.int .i64 h2) := ⟨_, rfl⟩
  rw [← eW]
  have hO1 : OwnV W1 cb [.slice ao n cap, .int .i64 j, .int .i64 h2] := by rw [eW]; exact (unhide HO).set 2 _ (by simp)
  have HK1 : Hid (Kept (fun b => b = cb) w W1) := by show Kept _ _ _; rw [eW]; exact (Kept.refl (fun b => b = cb) w).setCell (p := ⟨cb, 2, none⟩) rfl _
  have HB1 : Hid (BytesIn cb W1 (.slice ao n cap) n) := (unhide HB).below ((unhide HK1).below (Nat.le_of_lt hO1.lt |> fun h => by rw [eW] at h; simpa [World.setCell] using h) (fun b e => by omega)) (Nat.le_refl _)
  clear c0 c1 c2 f1 f2 eW
  have c0 := hO1.cell (i := 0) rfl
  have c1 := hO1.cell (i := 1) rfl
  have c2 := hO1.cell (i := 2) rfl
  have f1 := hO1.frozen 1
  have HO1 := hide hO1
  clear hO1
  go_quiet (fail)
  go_wp2
  have hx := and255 (bits BinOp.xor IntKind.i64 (h2 / 8589934592) (h2 / 35184372088832))
  generalize bits BinOp.and IntKind.i64 (bits BinOp.xor IntKind.i64 (h2 / 8589934592) (h2 / 35184372088832)) 255 = x0 at *
  generalize bits BinOp.xor IntKind.i64 (h2 / 8589934592) (h2 / 35184372088832) = x1 at *
  obtain ⟨hx1, hx2⟩ := hx
  by_cases hjn : j < n
  · have hjn' : (j : Int) < (n : Int) := by omega
    obtain ⟨ao', cap', ev, _, _, hcs⟩ := unhide HB1
    simp only [Value.slice.injEq, true_and] at ev
    obtain ⟨rfl, rfl⟩ := ev
    obtain ⟨b, o, y, rfl, hlt, hcell, hy1, hy2⟩ := hcs j hjn
    clear hcs
    go_quiet (fail)
    go_wp2
    go_quiet (fail)
    have hz := and255 (x0 + y)
    generalize bits BinOp.and IntKind.i64 (x0 + y) 255 = z at *
    obtain ⟨hz1, hz2⟩ := hz
    go_wp2
    go_ret
    exact ⟨z, rfl, hz1, hz2, cur_step (unhide HB1) (unhide HO1) hjn _, ((unhide HK1).trans (kept_of_below (drewN_below _ _ _))).setCell rfl _⟩
  · have hjn' : decide ((j : Int) < (n : Int)) = false := by simp; omega
    go_quiet (fail)
    go_wp2
    go_ret
    have hcur : Cur W1 cb (.slice ao n cap) n := ⟨unhide HB1, j, h2, by omega, hi1, unhide HO1⟩
    exact ⟨x0, rfl, hx1, hx2, (hcur.drewN _).drewN _, ((unhide HK1).trans (kept_of_below (drewN_below _ _ _))).trans (kept_of_below (drewN_below _ _ _))⟩

set_option maxHeartbeats 800000 in
theorem l1Below_any (cb n : Nat) (v : Value) (k : Int) (w : World) (h : Cur w cb v n) (hn : n ≤ 1048576) (hk0 : 1 ≤ k) (hk1 : k ≤ 256) :
    Calls Try.prog 56 #[.pointer (some ⟨cb, 0, none⟩), .int .i64 k] w fun e w' => ∃ x, e = .returned (.int .i64 x) ∧ 0 ≤ x ∧ x < k ∧ Cur w' cb v n ∧ Kept (fun b => b = cb) w w' := by
  have HB := hide (l1Byte_any cb n v w h hn)
  clear h
  go_enter Try.func56, Try.ntmps56
  go_wp2_with fail
  refine (unhide HB).mono ?_
  rintro e w1 ⟨x, rfl, hx0, hx1, hc, hK⟩
  have HC := hide hc
  have HK := hide hK
  clear hc hK HB
  go_wp2
  go_ret
  exact ⟨_, rfl, Int.emod_nonneg _ (by omega), Int.emod_lt_of_pos _ (by omega), unhide HC, unhide HK⟩

set_option maxHeartbeats 800000 in
theorem l1Once_any (cb n : Nat) (v : Value) (k : Int) (w : World) (h : Cur w cb v n) (hn : n ≤ 1048576) (hk0 : 1 ≤ k) (hk1 : k ≤ 256) :
    Calls Try.prog 58 #[.pointer (some ⟨cb, 0, none⟩), .int .i64 k] w fun e w' => ∃ b, e = .returned (.bool b) ∧ Cur w' cb v n ∧ Kept (fun b => b = cb) w w' := by
  have HB := hide (l1Below_any cb n v k w h hn hk0 hk1)
  clear h
  go_enter Try.func58, Try.ntmps58
  go_wp2_with fail
  refine (unhide HB).mono ?_
  rintro e w1 ⟨x, rfl, hx0, hx1, hc, hK⟩
  have HC := hide hc
  have HK := hide hK
  clear hc hK HB
  go_wp2
  go_ret
  exact ⟨_, rfl, unhide HC, unhide HK⟩

end

section
open Go.RowKit

set_option maxHeartbeats 400000 in
theorem big_any (ao : Option Addr) (n cap : Nat) (w : World) : Calls Try.prog 11 #[.slice ao n cap] w fun e w' => e = .returned (.bool (decide ((1048576 : Int) < (n : Int)))) ∧ w = w' := by
  go_enter Try.func11, Try.ntmps11
  go_wp2
  go_ret
  exact ⟨rfl, rfl⟩

set_option maxHeartbeats 400000 in
theorem at_any (v : Value) (n : Nat) (B : Nat) (k : Nat) (w : World) (h : BytesIn B w v n) (hn : n ≤ 1048576) (hk : k ≤ 1000) :
    Calls Try.prog 12 #[v, .int .i64 k] w fun e w' => ∃ x, e = .returned (.int .i64 x) ∧ 0 ≤ x ∧ x ≤ 255 ∧ w = w' := by
  obtain ⟨ao, cap, rfl, _, _, hc⟩ := h
  by_cases hkn : k < n
  · have hkn' : (k : Int) < (n : Int) := by omega
    obtain ⟨b, o, y, rfl, _, hcell, hy1, hy2⟩ := hc k hkn
    clear hc
    go_enter Try.func12, Try.ntmps12
    go_wp2
    go_ret
    exact ⟨_, rfl, hy1, hy2, rfl⟩
  · have hkn' : (n : Int) ≤ (k : Int) := by omega
    clear hc
    go_enter Try.func12, Try.ntmps12
    go_wp2
    go_ret
    exact ⟨_, rfl, by omega, by omega, rfl⟩

end

section
open Go.RowKit

theorem cur_new {w : World} {v : Value} {n : Nat} (h : BytesIn w.heap.size w v n) (z : Int) (t : TypeId) : Cur (w.alloc (.cells #[v, .int .i64 0, .int .i64 z] t)) w.heap.size v n :=
  ⟨h.below (Below.alloc1 _ _) (Nat.le_refl _), 0, z, by omega, by omega, #[v, .int .i64 0, .int .i64 z], t, Go.Deep.blk_alloc_new _ _, fun i _ => by simp⟩

set_option maxHeartbeats 800000 in
theorem l1New_any (v : Value) (n : Nat) (w : World) (h : BytesIn w.heap.size w v n) (hn : n ≤ 1048576) :
    Calls Try.prog 53 #[v] w fun e w' => e = .returned (.pointer (some ⟨w.heap.size, 0, none⟩)) ∧ Cur w' w.heap.size v n ∧ Below w.heap.size w w' ∧ w'.heap.size = w.heap.size + 1 := by
  have HB := hide h
  obtain ⟨ao, cap, rfl, hl, hm, hc⟩ := h
  have HC := hide hc
  unfold maxLen at hm
  clear hc
  go_enter Try.func53, Try.ntmps53
  go_wp2
  go_loopg [3, 4] n (fun g hv iv wr => w = wr ∧ ∃ k : Nat, ∃ z : Int, k ≤ n ∧ g = n - k ∧ iv = .int .i64 k ∧ hv = .int .i64 z)
  case atStart => exact ⟨rfl, 0, _, Nat.zero_le _, rfl, rfl, rfl⟩
  case round =>
    obtain ⟨rfl, k, z, hk, rfl, rfl, rfl⟩ := hrel
    by_cases hkn : k < n
    · have hkn' : (k : Int) < (n : Int) := by omega
      by_cases hk4 : k < 4000
      · have hk4' : (k : Int) < 4000 := by omega
        obtain ⟨b, o, y, rfl, hlt, hcell, hy1, hy2⟩ := unhide HC k hkn
        go_wp2
        go_roundg (n - (k + 1))
        case measure => omega
        case rel => exact ⟨rfl, k + 1, _, by omega, rfl, by go_num, rfl⟩
      · have hk4' : decide ((k : Int) < 4000) = false := by simp; omega
        go_wp2
        go_ret
        exact ⟨rfl, cur_new (unhide HB) _ _, Below.alloc1 _ _, by simp⟩
    · have hkn' : decide ((k : Int) < (n : Int)) = false := by simp; omega
      go_wp2
      go_ret
      exact ⟨rfl, cur_new (unhide HB) _ _, Below.alloc1 _ _, by simp⟩

set_option maxHeartbeats 800000 in
theorem l1BelowV_any (cb n : Nat) (v : Value) (k : Int) (w : World) (h : Cur w cb v n) (hn : n ≤ 1048576) (hk0 : 1 ≤ k) (hk1 : k ≤ 1000000000) :
    Calls Try.prog 56 #[.pointer (some ⟨cb, 0, none⟩), .int .i64 k] w fun e w' => ∃ x, e = .returned (.int .i64 x) ∧ 0 ≤ x ∧ x < k ∧ Cur w' cb v n ∧ Kept (fun b => b = cb) w w' := by
  by_cases h256 : k ≤ 256
  · exact l1Below_any cb n v k w h hn hk0 h256
  have HC := hide h
  have HK := hide (Kept.refl (fun b => b = cb) w)
  have HB := hide fun V hV => l1Byte_any cb n v V hV hn
  have hk2 : (256 : Int) < k := by omega
  clear h h256
  go_enter Try.func56, Try.ntmps56
  go_wp2_with fail
  refine (unhide HB _ (unhide HC)).mono ?_
  rintro e w1 ⟨x, rfl, hx0, hx1, hc, hk⟩
  replace HC := hide hc
  replace HK := hide ((unhide HK).trans hk)
  clear hc hk
  go_wp2_with fail
  refine (unhide HB _ (unhide HC)).mono ?_
  rintro e w2 ⟨y, rfl, hy0, hy1, hc, hk⟩
  replace HC := hide hc
  replace HK := hide ((unhide HK).trans hk)
  clear hc hk
  go_wp2_with fail
  refine (unhide HB _ (unhide HC)).mono ?_
  rintro e w3 ⟨z, rfl, hz0, hz1, hc, hk⟩
  replace HC := hide hc
  replace HK := hide ((unhide HK).trans hk)
  clear hc hk
  go_wp2_with fail
  refine (unhide HB _ (unhide HC)).mono ?_
  rintro e w4 ⟨t, rfl, ht0, ht1, hc, hk⟩
  replace HC := hide hc
  replace HK := hide ((unhide HK).trans hk)
  clear hc hk HB
  go_wp2
  go_ret
  exact ⟨_, rfl, Int.emod_nonneg _ (by omega), Int.emod_lt_of_pos _ (by omega), unhide HC, unhide HK⟩

set_option maxHeartbeats 800000 in
theorem l1PickInt_any (cb n : Nat) (v : Value) (g m : Nat) (xs : List Int) (w : World) (h : Cur w cb v n) (hn : n ≤ 1048576) (hx : OwnV w g (ints xs)) (hg : g ≠ cb) (hm : xs.length = m) (hm0 : 1 ≤ m) (hm1 : m ≤ 256) :
    Calls Try.prog 60 #[.pointer (some ⟨cb, 0, none⟩), .slice (some ⟨g, 0, none⟩) m m] w fun e w' => ∃ x, e = .returned (.int .i64 x) ∧ Cur w' cb v n ∧ Kept (fun b => b = cb) w w' := by
  have HB := hide (l1Below_any cb n v m w h hn (by omega) (by omega))
  have HX := hide hx
  have HM := hide hm
  clear h hx hm
  go_enter Try.func60, Try.ntmps60
  go_wp2_with fail
  refine (unhide HB).mono ?_
  rintro e w1 ⟨x, rfl, hx0, hx1, hc, hk⟩
  have HC := hide hc
  have HK := hide hk
  obtain ⟨j, rfl⟩ : ∃ j : Nat, x = (j : Int) := ⟨x.toNat, by omega⟩
  have cj := ((unhide HX).kept hk hg).cell (ints_get xs (i := j) (by rw [unhide HM]; omega))
  generalize xs.getD j 0 = y at cj
  clear hc hk
  go_wp2
  go_ret
  exact ⟨_, rfl, unhide HC, unhide HK⟩

end

section
open Go.RowKit

def by8 (X : List Int) : List Value := X.map (Value.int .u8)
theorem by8_len (X : List Int) : (by8 X).length = X.length := by simp [by8]
theorem by8_get (X : List Int) {i : Nat} (h : i < X.length) : (by8 X)[i]? = some (.int .u8 (X.getD i 0)) := by
  simp [by8, List.getD, List.getElem?_eq_getElem h]
theorem by8_set (X : List Int) (i : Nat) (x : Int) : (by8 X).set i (.int .u8 x) = by8 (X.set i x) := by simp [by8, List.map_set]
theorem by8_app (X : List Int) (d : Int) : by8 X ++ [.int .u8 d] = by8 (X ++ [d]) := by simp [by8]

/-- Four capitals and six digits. -/
structure Right10 (X : List Int) : Prop where
  len : X.length = 10
  cap : ∀ r, r < 4 → 65 ≤ X.getD r 0 ∧ X.getD r 0 ≤ 90
  dig : ∀ r, 4 ≤ r → r < 10 → 48 ≤ X.getD r 0 ∧ X.getD r 0 ≤ 57

theorem getD_setN (X : List Int) (k r : Nat) (x : Int) (hk : k < X.length) : (X.set k x).getD r 0 = if r = k then x else X.getD r 0 := by
  simp only [List.getD, List.getElem?_set]
  by_cases e : r = k
  · subst e; simp [hk]
  · simp [e, Ne.symm e]
theorem Right10.set_cap {X : List Int} (h : Right10 X) {k : Nat} (hk : k < 4) {x : Int} (h0 : 65 ≤ x) (h1 : x ≤ 90) : Right10 (X.set k x) := by
  have hl := h.len
  refine ⟨by rw [List.length_set]; exact hl, fun r hr => ?_, fun r hr hr2 => ?_⟩
  · rw [getD_setN X k r x (by omega)]
    split
    · exact ⟨h0, h1⟩
    · exact h.cap r hr
  · rw [getD_setN X k r x (by omega), if_neg (by omega)]
    exact h.dig r hr hr2
theorem Right10.set_dig {X : List Int} (h : Right10 X) {k : Nat} (hk4 : 4 ≤ k) (hk : k < 10) {x : Int} (h0 : 48 ≤ x) (h1 : x ≤ 57) : Right10 (X.set k x) := by
  have hl := h.len
  refine ⟨by rw [List.length_set]; exact hl, fun r hr => ?_, fun r hr hr2 => ?_⟩
  · rw [getD_setN X k r x (by omega), if_neg (by omega)]
    exact h.cap r hr
  · rw [getD_setN X k r x (by omega)]
    split
    · exact ⟨h0, h1⟩
    · exact h.dig r hr hr2
theorem Right10.bd {X : List Int} (h : Right10 X) {r : Nat} (hr : r < 10) : 0 ≤ X.getD r 0 ∧ X.getD r 0 < 256 := by
  by_cases h4 : r < 4
  · have := h.cap r h4; omega
  · have := h.dig r (by omega) hr; omega
theorem Right10.good {X : List Int} (h : Right10 X) {r : Nat} (hr : r < 10) : 0 ≤ sgB (X.getD r 0) r := by
  unfold sgB
  by_cases h4 : r < 4
  · have h1 := h.cap r h4
    have h2 : 65 ≤ X.getD r 0 ∧ X.getD r 0 ≤ 90 := h1
    rw [if_pos h4, letV, if_pos h2]
    unfold ltr
    omega
  · have h1 := h.dig r (by omega) hr
    rw [if_neg h4, if_pos h1]
    omega

theorem byt_str {X : List Int} {i : Nat} (hi : i < X.length) (h0 : 0 ≤ X.getD i 0) (h1 : X.getD i 0 < 256) : byt (strOfNums X) i = X.getD i 0 := by
  have hs : i < (strOfNums X).size := by rw [strOfNums_size]; exact hi
  rw [← byt_eq _ _ hs]
  have e : (strOfNums X)[i]'hs = UInt8.ofNat (X.getD i 0).toNat := by
    show (strOfNums X).data[i]'hs = _
    simp [strOfNums, List.getD, List.getElem?_eq_getElem hi]
  rw [e]
  generalize X.getD i 0 = x at *
  simp
  omega
/-- The sum that the digit is told by. -/
def smX (X : List Int) (k : Nat) : Int := sumTo (fun r => sgB (X.getD r 0) r * 2 ^ r) k
theorem cdSum_str {X : List Int} (h : Right10 X) : ∀ k, k ≤ 10 → cdSum (strOfNums X) k = smX X k
  | 0, _ => rfl
  | k + 1, hk => by
    have ih := cdSum_str h k (by omega)
    have hb := h.bd (r := k) (by omega)
    rw [cdSum, ih, byt_str (by rw [h.len]; omega) hb.1 hb.2]
    rfl
theorem cd_str {X : List Int} (h : Right10 X) : cd (strOfNums X) = smX X 10 % 11 % 10 := by
  rw [cd_all (by rw [strOfNums_size]; exact h.len) (fun i hi => by
    have hb := h.bd hi
    rw [byt_str (by rw [h.len]; exact hi) hb.1 hb.2]
    exact h.good hi), cdSum_str h 10 (Nat.le_refl _)]
theorem str_cut {X : List Int} (d : Int) (h : X.length = 10) : (strOfNums (X ++ [d])).extract 0 10 = strOfNums X := by
  unfold strOfNums
  rw [ByteArray.extract_mk]
  congr 1
  simp [h]
theorem bn_str {X : List Int} (h : Right10 X) {d : Int} (h0 : 0 ≤ d) (h1 : d < 256) : bnB (strOfNums (X ++ [d])) = decide (d = 48 + cd (strOfNums X)) := by
  have hl := h.len
  have e10 : (X ++ [d]).getD 10 0 = d := by
    simp only [List.getD]
    rw [List.getElem?_append_right (by omega), hl]
    rfl
  have hb : byt (strOfNums (X ++ [d])) 10 = d := by
    rw [byt_str (by simp [hl]) (by rw [e10]; exact h0) (by rw [e10]; exact h1), e10]
  have hc : 0 ≤ cd (strOfNums X) := by rw [cd_str h]; omega
  unfold bnB
  rw [str_cut d hl, hb, strOfNums_size]
  simp [hl, hc]
theorem bn_ten {X : List Int} (h : X.length = 10) : bnB (strOfNums X) = false := bn_len (by rw [strOfNums_size, h]; omega)
theorem cd_bd2 {X : List Int} (h : Right10 X) : 0 ≤ cd (strOfNums X) ∧ cd (strOfNums X) ≤ 9 := by rw [cd_str h]; omega

theorem smX_set (X : List Int) (k : Nat) (x : Int) (hk : k < X.length) : ∀ n, smX (X.set k x) n = smX X n + (if k < n then (sgB x k - sgB (X.getD k 0) k) * 2 ^ k else 0)
  | 0 => by simp [smX, sumTo]
  | n + 1 => by
    have ih := smX_set X k x hk n
    unfold smX at *
    rw [sumTo, sumTo, ih, getD_setN X k n x hk]
    by_cases h1 : n = k
    · subst h1
      rw [if_pos rfl, if_neg (Nat.lt_irrefl _), if_pos (Nat.lt_succ_self _), Int.sub_mul]
      omega
    · rw [if_neg h1]
      by_cases h2 : k < n
      · rw [if_pos h2, if_pos (by omega)]
        omega
      · rw [if_neg h2, if_neg (by omega)]
        omega
theorem pow_mod {d : Int} {k : Nat} (h4 : 4 ≤ k) (hk : k < 10) (h0 : -9 ≤ d) (h1 : d ≤ 9) (hm : d * 2 ^ k % 11 = 0) : d = 0 := by
  have : k = 4 ∨ k = 5 ∨ k = 6 ∨ k = 7 ∨ k = 8 ∨ k = 9 := by omega
  rcases this with h | h | h | h | h | h <;> subst h <;> simp at hm <;> omega
/-- With another one of the six digits the same digit is told at most where it is 0. -/
theorem digit_turn {X : List Int} (h : Right10 X) {k : Nat} (h4 : 4 ≤ k) (hk : k < 10) {x : Int} (h0 : 48 ≤ x) (h1 : x ≤ 57) (hne : x ≠ X.getD k 0) (he : cd (strOfNums (X.set k x)) = cd (strOfNums X)) : cd (strOfNums X) = 0 := by
  have hr := h.set_dig h4 hk h0 h1
  rw [cd_str hr, cd_str h, smX_set X k x (by rw [h.len]; exact hk), if_pos hk] at he
  rw [cd_str h]
  have hd := h.dig k h4 hk
  have e1 : sgB x k = x - 48 := by unfold sgB; rw [if_neg (by omega), if_pos ⟨h0, h1⟩]
  have e2 : sgB (X.getD k 0) k = X.getD k 0 - 48 := by unfold sgB; rw [if_neg (by omega), if_pos hd]
  rw [e1, e2] at he
  obtain ⟨d, ed⟩ : ∃ d, d = x - 48 - (X.getD k 0 - 48) := ⟨_, rfl⟩
  rw [← ed] at he
  have hp := fun hm => pow_mod (d := d) h4 hk (by omega) (by omega) hm
  generalize d * 2 ^ k = m at *
  generalize smX X 10 = s at *
  by_cases hc : s % 11 % 10 = 0
  · exact hc
  · exfalso
    have := hp (by omega)
    omega

end

section
open Go.RowKit

theorem ownsRow_kept {T : Nat → Prop} {w w' : World} {base n size : Nat} {e : TypeId} {v : Value} {xs : List Value} (h : w.ownsRow base e size v n xs) (hk : Kept T w w') (hT : ∀ g, base ≤ g → g < w.heap.size → v.ownBlock = some g → ¬ T g) : w'.ownsRow base e size v n xs := by
  obtain ⟨h1, h2⟩ := h
  refine ⟨h1, ?_⟩
  rcases h2 with h2 | ⟨g, cap, cur, hv, hg, hh, r⟩
  · exact Or.inl h2
  · obtain ⟨hlt, _⟩ := Array.getElem?_eq_some_iff.1 hh
    exact Or.inr ⟨g, cap, cur, hv, hg, (hk.block g hlt (hT g hg hlt (by rw [hv]; rfl))).trans hh, r⟩

theorem Kept.grown {T : Nat → Prop} {a w w' : World} {row : Option Nat} (h : Kept T a w) (hg : w.grownBy w' row) (hr : ∀ k, row = some k → T k) : Kept T a w' :=
  h.trans ⟨hg.os, hg.tape, hg.output, hg.size, fun k hk ht => hg.block k hk (fun e => ht (hr k e.symm))⟩

theorem Kept.alloc {T : Nat → Prop} {a w : World} (h : Kept T a w) (o : Obj) : Kept T a (w.alloc o) := h.trans (kept_of_below (Below.alloc1 w o))

/-- The slice value ov owns one cell a row of R; row r lies at the head of a block of its own. -/
def Grow (t : TypeId) (base : Nat) (w : World) (ov : Value) (R : List (List Int)) : Prop :=
  ∃ vals, w.ownsRow base t 1 ov R.length vals ∧ ∀ r, r < R.length → ∃ g cap, vals[r]? = some (.slice (some ⟨g, 0, none⟩) (R.getD r []).length cap) ∧ (R.getD r []).length ≤ cap ∧ cap ≤ maxLen ∧ OwnV w g (ints (R.getD r [])) ∧ base ≤ g ∧ ov.ownBlock ≠ some g

theorem Grow.start (t : TypeId) (base : Nat) (w : World) : Grow t base w (.slice none 0 0) [] := ⟨[], World.ownsRow_nil _ _ _ _, fun r hr => by simp at hr⟩

theorem Grow.kept {T : Nat → Prop} {t : TypeId} {base : Nat} {w w' : World} {ov : Value} {R : List (List Int)} (h : Grow t base w ov R) (hk : Kept T w w') (hT : ∀ g, base ≤ g → g < w.heap.size → ¬ T g) : Grow t base w' ov R := by
  obtain ⟨vals, ho, hr⟩ := h
  refine ⟨vals, ownsRow_kept ho hk (fun g hg hl _ => hT g hg hl), fun r hlt => ?_⟩
  obtain ⟨g, cap, h1, h2, h3, h4, h5, h6⟩ := hr r hlt
  exact ⟨g, cap, h1, h2, h3, h4.kept hk (hT g h5 h4.lt), h5, h6⟩

theorem Grow.below {t : TypeId} {base : Nat} {w w' : World} {ov : Value} {R : List (List Int)} (h : Grow t base w ov R) (hb : Below w.heap.size w w') : Grow t base w' ov R :=
  h.kept (T := fun _ => False) (kept_of_below hb) (fun _ _ _ h => h)

theorem Grow.mono {t : TypeId} {base base' : Nat} {w : World} {ov : Value} {R : List (List Int)} (h : Grow t base w ov R) (hb : base' ≤ base) : Grow t base' w ov R := by
  obtain ⟨vals, ho, hr⟩ := h
  refine ⟨vals, ⟨ho.1, ho.2.elim Or.inl (fun ⟨g, cap, cur, hv, hg, r⟩ => Or.inr ⟨g, cap, cur, hv, Nat.le_trans hb hg, r⟩)⟩, fun r hlt => ?_⟩
  obtain ⟨g, cap, h1, h2, h3, h4, h5, h6⟩ := hr r hlt
  exact ⟨g, cap, h1, h2, h3, h4, Nat.le_trans hb h5, h6⟩

/-- Where there is a row the list lies at the head of a block of its own. -/
theorem Grow.form {t : TypeId} {base : Nat} {w : World} {ov : Value} {R : List (List Int)} (h : Grow t base w ov R) (hn : 0 < R.length) : ∃ g cap, ov = .slice (some ⟨g, 0, none⟩) R.length cap ∧ base ≤ g ∧ R.length ≤ cap ∧ cap ≤ maxLen := by
  obtain ⟨vals, ⟨_, h2⟩, _⟩ := h
  rcases h2 with ⟨_, h0⟩ | ⟨g, cap, cur, hv, hg, hh, hc, hm, _⟩
  · omega
  · exact ⟨g, cap, hv, hg, hc, hm⟩

theorem getD_snoc {α : Type} (R : List α) (x d : α) (r : Nat) : (R ++ [x]).getD r d = if r < R.length then R.getD r d else if r = R.length then x else d := by
  by_cases h : r < R.length
  · rw [if_pos h]; simp [List.getD, List.getElem?_append_left h]
  · rw [if_neg h]
    by_cases e : r = R.length
    · subst e; simp [List.getD]
    · rw [if_neg e, List.getD, List.getElem?_eq_none (by simp; omega)]; rfl

/-- One row more, behind the law of append. -/
theorem Grow.push {t : TypeId} {base : Nat} {w w1 w2 : World} {ov : Value} {R : List (List Int)} {row : List Int} {g cap g' cap' H : Nat} {vals : List Value}
    (hr : ∀ r, r < R.length → ∃ g cap, vals[r]? = some (.slice (some ⟨g, 0, none⟩) (R.getD r []).length cap) ∧ (R.getD r []).length ≤ cap ∧ cap ≤ maxLen ∧ OwnV w g (ints (R.getD r [])) ∧ base ≤ g ∧ ov.ownBlock ≠ some g)
    (hvl : vals.length = R.length) (hb : Below w.heap.size w w1) (ho : OwnV w g (ints row)) (hg : base ≤ g) (hne : ov.ownBlock ≠ some g) (hc1 : row.length ≤ cap) (hc2 : cap ≤ maxLen) (hH : w.heap.size ≤ H)
    (hown : w2.ownsRow base t 1 (.slice (some ⟨g', 0, none⟩) (R.length + 1) cap') (R.length + 1) (vals ++ [.slice (some ⟨g, 0, none⟩) row.length cap])) (hgrow : w1.grownBy w2 ov.ownBlock) (hat : ov.ownBlock = some g' ∨ g' = H) :
    Grow t base w2 (.slice (some ⟨g', 0, none⟩) (R.length + 1) cap') (R ++ [row]) := by
  refine ⟨vals ++ [.slice (some ⟨g, 0, none⟩) row.length cap], by rw [List.length_append]; exact hown, fun r hlt => ?_⟩
  rw [List.length_append] at hlt
  simp only [List.length_cons, List.length_nil, Nat.zero_add] at hlt
  have far : ∀ x, x < w.heap.size → ov.ownBlock ≠ some x → (Value.slice (some ⟨g', 0, none⟩) (R.length + 1) cap').ownBlock ≠ some x ∧ w2.heap[x]? = w.heap[x]? := fun x hx hnx => by
    constructor
    · intro e
      have e' : g' = x := by simpa [Value.ownBlock] using e
      subst e'
      rcases hat with h | h
      · exact hnx h
      · omega
    · rw [hgrow.block x (Nat.lt_of_lt_of_le hx hb.size) (fun e => hnx e.symm), hb.block x hx]
  rw [getD_snoc]
  by_cases h : r < R.length
  · rw [if_pos h]
    obtain ⟨g1, cap1, h1, h2, h3, h4, h5, h6⟩ := hr r h
    obtain ⟨f1, f2⟩ := far g1 h4.lt h6
    exact ⟨g1, cap1, by rw [List.getElem?_append_left (by omega)]; exact h1, h2, h3, h4.of_block f2, h5, f1⟩
  · rw [if_neg h, if_pos (by omega)]
    obtain ⟨f1, f2⟩ := far g ho.lt hne
    exact ⟨g, cap, by rw [List.getElem?_append_right (by omega)]; simp [show r - vals.length = 0 by omega], hc1, hc2, ho.of_block f2, hg, f1⟩

theorem Grow.rowsIn {t : TypeId} {base : Nat} {w : World} {ov : Value} {R : List (List Int)} (h : Grow t base w ov R) : RowsIn w ov R := by
  obtain ⟨vals, ⟨h1, h2⟩, hr⟩ := h
  rcases h2 with ⟨rfl, h0⟩ | ⟨g, cap, cur, rfl, hg, hh, hc, hm, hs, ht⟩
  · have : R = [] := List.length_eq_zero_iff.1 h0
    subst this
    exact ⟨none, 0, rfl, Nat.le_refl _, Nat.zero_le _, fun r hr => by simp at hr⟩
  · refine ⟨_, cap, rfl, hc, hm, fun r hlt => ?_⟩
    obtain ⟨g1, cap1, e1, e2, e3, e4, _, _⟩ := hr r hlt
    refine ⟨g, 0, _, rfl, ?_, e4.intsIn e2 e3⟩
    rw [Nat.zero_add]
    have : cur[r]? = some (.slice (some ⟨g1, 0, none⟩) (R.getD r []).length cap1) := by
      rw [← ht] at e1
      rw [List.getElem?_take, if_pos (by omega)] at e1
      simpa using e1
    simp [World.cell?, hh, this]

end

section
open Go.RowKit

theorem Try.infoU8 : (Try.prog.info? 5).map (fun i => (i.zero, i.size, i.bytes)) = some (some (.int .u8 0), 1, 1) := by kernel_rfl

/-- Bytes in a block g that is the call's own: the first n of its cap cells; none of the cells is frozen. -/
structure M8 (w : World) (g n cap : Nat) (X : List Int) : Prop where
  len : X.length = n
  room : n ≤ cap
  most : cap ≤ maxLen
  row : ∃ cur lo hi, w.heap[g]? = some (.cells cur 5 (lo, hi)) ∧ cur.size = cap ∧ (cap ≤ lo ∨ hi = 0) ∧ ∀ i, i < n → cur[i]? = some (.int .u8 (X.getD i 0))
namespace M8
variable {w w' : World} {g n cap : Nat} {X : List Int}
theorem lt (h : M8 w g n cap X) : g < w.heap.size := by
  obtain ⟨cur, lo, hi, hh, _⟩ := h.row
  exact (Array.getElem?_eq_some_iff.1 hh).1
theorem of_block (h : M8 w g n cap X) (e : w'.heap[g]? = w.heap[g]?) : M8 w' g n cap X := by
  obtain ⟨cur, lo, hi, hh, r⟩ := h.row
  exact ⟨h.len, h.room, h.most, cur, lo, hi, e.trans hh, r⟩
theorem below (h : M8 w g n cap X) (hb : Below w.heap.size w w') : M8 w' g n cap X := h.of_block (hb.block g h.lt)
theorem kept {T : Nat → Prop} (h : M8 w g n cap X) (hk : Kept T w w') (hg : ¬ T g) : M8 w' g n cap X := h.of_block (hk.block g h.lt hg)
theorem drew (h : M8 w g n cap X) : M8 w.drew g n cap X := h.of_block rfl
theorem cell (h : M8 w g n cap X) {i : Nat} (hi : i < n) : w.cell? ⟨g, i, none⟩ = some (.int .u8 (X.getD i 0)) := by
  obtain ⟨cur, lo, hi', hh, _, _, hc⟩ := h.row
  simp [World.cell?, hh, hc i hi]
theorem cell_some (h : M8 w g n cap X) {i : Nat} (hi : i < cap) : (w.cell? ⟨g, i, none⟩).isSome = true := by
  obtain ⟨cur, lo, hi', hh, hs, _, _⟩ := h.row
  simp [World.cell?, hh, hs, hi]
theorem frozen (h : M8 w g n cap X) {i : Nat} (hi : i < cap) : w.frozen? ⟨g, i, none⟩ = false := by
  obtain ⟨cur, lo, hi', hh, hs, hf, _⟩ := h.row
  simp only [World.frozen?, hh]
  rcases hf with hf | hf
  · simp; omega
  · simp [hf]
theorem set (h : M8 w g n cap X) {i : Nat} (hi : i < n) (x : Int) : M8 (w.setCell ⟨g, i, none⟩ (.int .u8 x)) g n cap (X.set i x) := by
  obtain ⟨cur, lo, hi', hh, hs, hf, hc⟩ := h.row
  refine ⟨by rw [List.length_set]; exact h.len, h.room, h.most, cur.setIfInBounds i (.int .u8 x), lo, hi', by simp [World.setCell, Array.getElem?_modify, hh], by simpa using hs, hf, fun j hj => ?_⟩
  rw [Array.getElem?_setIfInBounds, getD_setN X i j x (by rw [h.len]; exact hi)]
  by_cases e : i = j
  · subst e
    have := h.room
    rw [if_pos rfl, if_pos rfl, if_pos (by omega)]
  · rw [if_neg e, if_neg (fun h => e h.symm), hc j hj]
/-- The first m of it. -/
theorem take (h : M8 w g n cap X) {m : Nat} (hm : m ≤ n) : M8 w g m cap (X.take m) := by
  obtain ⟨cur, lo, hi', hh, hs, hf, hc⟩ := h.row
  refine ⟨by rw [List.length_take, h.len]; omega, by have := h.room; omega, h.most, cur, lo, hi', hh, hs, hf, fun j hj => ?_⟩
  rw [hc j (by omega)]
  simp [List.getD, hj]
theorem text (h : M8 w g n cap X) (c : Nat) : (convert 22 9 (.slice (some ⟨g, 0, none⟩) n c)).run Try.prog w = .ok (.string (strOfNums X)) w :=
  run_convert_bytes_arg w _ _ Try.underlying22 Try.underlying5 g 0 n c X h.len (fun i hi => by rw [Nat.zero_add]; exact h.cell hi) _ Try.underlying9
end M8
theorem below_set {w w' : World} {B g : Nat} (h : Below B w w') (hg : B ≤ g) (i : Nat) (v : Value) : Below B w (w'.setCell ⟨g, i, none⟩ v) :=
  h.trans ⟨rfl, rfl, rfl, by simp [World.setCell], fun k hk => Below.heap_setCell _ _ _ _ (fun e => by simp only at e; omega)⟩
theorem m8_of_owns {w : World} {B g n cap : Nat} {X : List Int} (h : w.ownsRow B 5 1 (.slice (some ⟨g, 0, none⟩) n cap) n (by8 X)) : M8 w g n cap X := by
  obtain ⟨h1, h2⟩ := h
  rw [by8_len] at h1
  rcases h2 with ⟨hv, _⟩ | ⟨g', cap', cur, hv, hg, hh, hc, hm, hs, ht⟩
  · cases hv
  · simp only [Value.slice.injEq, Option.some.injEq, Addr.mk.injEq, and_true, true_and] at hv
    obtain ⟨rfl, rfl⟩ := hv
    refine ⟨by omega, hc, hm, cur, 0, 0, hh, by omega, Or.inr rfl, fun i hi => ?_⟩
    have := by8_get X (i := i) (by omega)
    rw [← ht, List.getElem?_take, if_pos (by omega)] at this
    simpa using this
theorem m8_lit (w : World) (X : List Int) (n lo hi : Nat) (hn : X.length = n) (hf : n ≤ lo ∨ hi = 0) (hm : n ≤ maxLen) : M8 (w.alloc (.cells (by8 X).toArray 5 (lo, hi))) w.heap.size n n X := by
  refine ⟨hn, Nat.le_refl _, hm, (by8 X).toArray, lo, hi, Go.Deep.blk_alloc_new _ _, by simp [by8_len, hn], hf, fun i hi => ?_⟩
  have := by8_get X (i := i) (by omega)
  simpa using this

theorem freeze_new (w : World) (C : Array Value) (e : TypeId) (n : Nat) : (w.alloc (.cells C e)).freeze ⟨w.heap.size, n, none⟩ 1 = w.alloc (.cells C e (n, n + 1)) := by
  have hm : ∀ (a : Array Obj) (x : Obj) (f : Obj → Obj), (a.push x).modify a.size f = a.push (f x) := by
    intro a x f
    apply Array.ext
    · simp
    · intro i h1 h2
      simp only [Array.getElem_modify, Array.getElem_push]
      by_cases h : a.size = i
      · subst h
        simp
      · have hi : i < a.size := by simp at h1; omega
        simp [h, hi]
  unfold World.freeze
  rw [if_neg (by decide)]
  show ({ w.alloc (.cells C e) with heap := (w.heap.push (.cells C e)).modify w.heap.size _ } : World) = _
  rw [hm]
  rfl
/-- A conversion of a literal's bytes: the row bears the run-time's mark. -/
theorem run_conv_lit (w : World) (C : Array Value) (n c : Nat) : (convert 22 22 (.slice (some ⟨w.heap.size, 0, none⟩) n c)).run Try.prog (w.alloc (.cells C 5)) = .ok (.slice (some ⟨w.heap.size, 0, none⟩) n c) (w.alloc (.cells C 5 (C.size, C.size + 1))) := by
  have hsh : (w.alloc (.cells C 5)).shape? w.heap.size = some (5, C.size) := by
    have : (w.alloc (.cells C 5)).heap[w.heap.size]? = some (.cells C 5) := by
      show (w.heap.push (.cells C 5))[w.heap.size]? = _
      simp
    unfold World.shape?
    rw [this]
  simp [convert, run_underlying Try.underlying22, run_underlying Try.underlying5, markStringish, hsh]
  exact freeze_new _ _ _ _

theorem run_app8 (w : World) (ty : TypeId) {g n cap : Nat} {X : List Int} (h : M8 w g n cap X) (hn : n ≤ 1000) (G : Nat) (d : Int) (c : Nat) (hG : w.cell? ⟨G, 0, none⟩ = some (.int .u8 d)) :
    ∃ g' cap' w', (Builtin.append_ #[22, 22] ty #[.slice (some ⟨g, 0, none⟩) n cap, .slice (some ⟨G, 0, none⟩) 1 c]).run Try.prog w = .ok (.slice (some ⟨g', 0, none⟩) (n + 1) cap') w' ∧
      M8 w' g' (n + 1) cap' (X ++ [d]) ∧ Kept (fun b => b = g ∧ n < cap) w w' ∧ (g' = g ∨ w.heap.size ≤ g') := by
  obtain ⟨i0, hinf, hzz⟩ := Option.map_eq_some_iff.1 Try.infoU8
  simp only [Prod.mk.injEq] at hzz
  obtain ⟨hz0, hz1, hz2⟩ := hzz
  have hnews : ∀ j u, [Value.int .u8 d][j]? = some u → w.cell? ((⟨G, 0, none⟩ : Addr).add j) = some u := fun j u hu => by
    rcases j with _ | j
    · simp at hu
      subst hu
      simpa [Addr.add] using hG
    · simp at hu
  by_cases hr : n + 1 ≤ cap
  · have hrun := run_append_room_cells (P := Try.prog) w 22 ty 5 i0 Try.underlying22 hinf g 0 n cap ⟨G, 0, none⟩ 1 c [.int .u8 d] (by rw [hz1]; rfl) hnews (by simp [Value.oneCell']) hr
      (fun j hj => by simp at hj; subst hj; rw [hz1]; simpa using h.cell_some (i := n) (by omega)) (fun j hj => by simp at hj; subst hj; rw [hz1]; simpa using h.frozen (i := n) (by omega))
    simp only [hz1, Nat.mul_one, Nat.zero_add, World.setCells] at hrun
    refine ⟨g, cap, _, hrun, ?_, (Kept.refl _ w).setCell (p := ⟨g, n, none⟩) ⟨rfl, by omega⟩ _, Or.inl rfl⟩
    obtain ⟨cur, lo, hi', hh, hs, hf, hc⟩ := h.row
    have hl := h.len
    refine ⟨by simp [hl], hr, h.most, cur.setIfInBounds n (.int .u8 d), lo, hi', by simp [World.setCell, Array.getElem?_modify, hh], by simpa using hs, hf, fun j hj => ?_⟩
    rw [Array.getElem?_setIfInBounds]
    by_cases e : n = j
    · subst e
      rw [if_pos rfl, if_pos (by omega)]
      simp [List.getD, ← hl]
    · rw [if_neg e, hc j (by omega)]
      simp [List.getD, List.getElem?_append_left (show j < X.length by omega)]
  · obtain ⟨v', w', hrun, ho, hg⟩ := run_append_arg_grows (P := Try.prog) w 22 ty 5 i0 _ 1 1 Try.underlying22 hinf hz0 hz1 hz2 rfl (by decide) ⟨g, 0, none⟩ n cap (by8 X) (by rw [by8_len, h.len]; omega) (fun j u hu => by
      have hj : j < n := by
        have := (List.getElem?_eq_some_iff.1 hu).1
        rw [by8_len, h.len] at this
        exact this
      rw [by8_get X (by rw [h.len]; exact hj)] at hu
      cases hu
      have ha : (⟨g, 0, none⟩ : Addr).add j = ⟨g, j, none⟩ := by unfold Addr.add; split <;> simp_all
      rw [ha]
      exact h.cell hj) ⟨G, 0, none⟩ 1 c [.int .u8 d] rfl hnews (by omega) (by unfold maxLen; omega) (by omega)
    rw [by8_app] at ho
    have ho' := ho
    rcases ho.2 with ⟨hv, hn0⟩ | ⟨g', cap', cur, hv, hg', _⟩
    · omega
    · subst hv
      exact ⟨g', cap', w', hrun, m8_of_owns ho', ⟨hg.os, hg.tape, hg.output, hg.size, fun k hk _ => hg.block k hk (by simp)⟩, Or.inr hg'⟩
theorem wpList_app8 (w : World) {ops : Array Oper} {rest : List Oper} {o : Oper} {a : Act} {Q : Exit → Act → World → Prop} (hwt : Region.wanted o (yielded ops a.tmps) = true) (s x : Operand)
    (ho : o.op = .call { callee := .builtin .append, args := #[s, x], argTypes := #[22, 22] })
    (g n cap : Nat) (X : List Int) (hs : a.eval s = .slice (some ⟨g, 0, none⟩) n cap) (h : M8 w g n cap X) (hn : n ≤ 1000) (G : Nat) (d : Int) (c : Nat) (hx : a.eval x = .slice (some ⟨G, 0, none⟩) 1 c) (hG : w.cell? ⟨G, 0, none⟩ = some (.int .u8 d))
    (hK : ∀ g' cap' w', M8 w' g' (n + 1) cap' (X ++ [d]) → Kept (fun b => b = g ∧ n < cap) w w' → (g' = g ∨ w.heap.size ≤ g') → wpList Try.prog ops Q rest (a.put o.dst (.slice (some ⟨g', 0, none⟩) (n + 1) cap')) w') : wpList Try.prog ops Q (o :: rest) a w := by
  refine wpList_step fun K hK' => ?_
  rw [if_pos hwt]
  obtain ⟨g', cap', w', hr, h2, h3, h4⟩ := run_app8 w o.type h hn G d c hG
  unfold Oper.wp execOp
  simp only [ho, resolve, invoke, builtin, Sem.run_bind, Sem.run_pure, Result.andThen_ok, List.map_toArray, List.map_cons, List.map_nil, hs, hx, hr]
  exact hK' _ _ (hK g' cap' w' h2 h3 h4)
theorem step_app8 {w : World} {ops : Array Oper} {o : Oper} {a : Act} {K : Act → World → Prop} {Q : Exit → Act → World → Prop} {E : Prop} (hwt : Region.wanted o (yielded ops a.tmps) = true) (s x : Operand)
    (ho : o.op = .call { callee := .builtin .append, args := #[s, x], argTypes := #[22, 22] })
    (g n cap : Nat) (X : List Int) (hs : a.eval s = .slice (some ⟨g, 0, none⟩) n cap) (h : M8 w g n cap X) (hn : n ≤ 1000) (G : Nat) (d : Int) (c : Nat) (hx : a.eval x = .slice (some ⟨G, 0, none⟩) 1 c) (hG : w.cell? ⟨G, 0, none⟩ = some (.int .u8 d))
    (hK : ∀ g' cap' w', M8 w' g' (n + 1) cap' (X ++ [d]) → Kept (fun b => b = g ∧ n < cap) w w' → (g' = g ∨ w.heap.size ≤ g') → K (a.put o.dst (.slice (some ⟨g', 0, none⟩) (n + 1) cap')) w') :
    if Region.wanted o (yielded ops a.tmps) = true then Oper.wp Try.prog o a w K Q else E := by
  rw [if_pos hwt]
  obtain ⟨g', cap', w', hr, h2, h3, h4⟩ := run_app8 w o.type h hn G d c hG
  unfold Oper.wp execOp
  simp only [ho, resolve, invoke, builtin, Sem.run_bind, Sem.run_pure, Result.andThen_ok, List.map_toArray, List.map_cons, List.map_nil, hs, hx, hr]
  exact hK g' cap' w' h2 h3 h4
/-- A call of a function of 1 argument, as one step of a region that draws its order. -/
theorem step_fun1 {P : Program} {w : World} {ops : Array Oper} {o : Oper} {a : Act} {K : Act → World → Prop} {Q : Exit → Act → World → Prop} {E : Prop} (hwt : Region.wanted o (yielded ops a.tmps) = true) (f : FuncId) (x0 : Operand) (ts : Array TypeId)
    (ho : o.op = .call { callee := .value (.func f), args := #[x0], argTypes := ts }) (u0 : Value) (h0 : a.eval x0 = u0) (hf : (callFunc f #[u0]).run P w = .ok (.enter f #[u0]) w) (v : Value) (R : World → Prop) (hc : Calls P f #[u0] w fun e w' => e = .returned v ∧ R w') (h : ∀ w', R w' → K (a.put o.dst v) w') :
    if Region.wanted o (yielded ops a.tmps) = true then Oper.wp P o a w K Q else E := by
  rw [if_pos hwt]
  unfold Oper.wp
  have hr : (execOp a.eval o).run P w = .ok (.enter f #[u0]) w := by
    have he : execOp a.eval o = callFunc f (#[] ++ #[x0].map a.eval ++ #[]) := by
      obtain ⟨_, _, _, _, _, _⟩ := o
      simp only at ho
      subst ho
      rfl
    rw [he]
    simp [h0, hf]
  rw [hr, Oper.upon_enter]
  refine hc.mono ?_
  rintro e w' ⟨rfl, hR⟩
  exact h w' hR
/-- A call of a function of 2 arguments, as one step of a region that draws its order. -/
theorem step_fun2 {P : Program} {w : World} {ops : Array Oper} {o : Oper} {a : Act} {K : Act → World → Prop} {Q : Exit → Act → World → Prop} {E : Prop} (hwt : Region.wanted o (yielded ops a.tmps) = true) (f : FuncId) (x0 x1 : Operand) (ts : Array TypeId)
    (ho : o.op = .call { callee := .value (.func f), args := #[x0, x1], argTypes := ts }) (u0 u1 : Value) (h0 : a.eval x0 = u0) (h1 : a.eval x1 = u1) (hf : (callFunc f #[u0, u1]).run P w = .ok (.enter f #[u0, u1]) w) (v : Value) (R : World → Prop) (hc : Calls P f #[u0, u1] w fun e w' => e = .returned v ∧ R w') (h : ∀ w', R w' → K (a.put o.dst v) w') :
    if Region.wanted o (yielded ops a.tmps) = true then Oper.wp P o a w K Q else E := by
  rw [if_pos hwt]
  unfold Oper.wp
  have hr : (execOp a.eval o).run P w = .ok (.enter f #[u0, u1]) w := by
    have he : execOp a.eval o = callFunc f (#[] ++ #[x0, x1].map a.eval ++ #[]) := by
      obtain ⟨_, _, _, _, _, _⟩ := o
      simp only at ho
      subst ho
      rfl
    rw [he]
    simp [h0, h1, hf]
  rw [hr, Oper.upon_enter]
  refine hc.mono ?_
  rintro e w' ⟨rfl, hR⟩
  exact h w' hR
/-- An append to a row that is full leaves all that was there. -/
theorem kept_full {g n : Nat} {w w' : World} (h : Kept (fun b => b = g ∧ n < n) w w') : Below w.heap.size w w' := h.below (Nat.le_refl _) (fun k hk => by omega)

end

section
open Go.RowKit

theorem wrap8d {x : Int} (h0 : 0 ≤ x) (h1 : x < 256) : IntKind.u8.wrap x = x := by rw [IntKind.wrap_u8']; omega

set_option maxRecDepth 10000 in
set_option maxHeartbeats 6400000 in
theorem l11DrawName_any (cb n : Nat) (v : Value) (w : World) (h : Cur w cb v n) (hn : n ≤ 1048576) :
    Calls Try.prog 110 #[.pointer (some ⟨cb, 0, none⟩)] w fun e w' => ∃ s : ByteArray, e = .returned (.string s) ∧ s.size = 11 ∧ Cur w' cb v n ∧ Kept (fun b => b = cb) w w' := by
  have hcl := h.lt
  have hA := Below.alloc1 w (.cells #[] 5)
  have HC := hide (h.below hA)
  have HK : Hid (Kept (fun b => b = cb ∨ w.heap.size ≤ b) w (w.alloc (.cells #[] 5))) := kept_of_below hA
  have HM : Hid (M8 (w.alloc (.cells #[] 5)) w.heap.size 0 0 []) := m8_lit w [] 0 0 0 rfl (Or.inr rfl) (by unfold maxLen; omega)
  have HB := hide fun W (hW : Cur W cb v n) k h0 h1 => l1Below_any cb n v k W hW hn h0 h1
  clear h hA
  go_enter Try.func110, Try.ntmps110
  go_wp2
  go_loopg [3, 4] 4 (fun gh bv iv wr => ∃ (k g cap : Nat) (X : List Int), k ≤ 4 ∧ gh = 4 - k ∧ iv = .int .i64 k ∧ bv = .slice (some ⟨g, 0, none⟩) k cap ∧ w.heap.size ≤ g ∧ Hid (M8 wr g k cap X) ∧ Hid (Cur wr cb v n) ∧ Hid (Kept (fun b => b = cb ∨ w.heap.size ≤ b) w wr))
  case atStart => exact ⟨0, w.heap.size, 0, [], by omega, rfl, rfl, rfl, Nat.le_refl _, unhide HM, unhide HC, unhide HK⟩
  case round =>
    clear HC HK HM
    obtain ⟨k, g, cap, X, hk4, rfl, rfl, rfl, hg, HM, HC, HK⟩ := hrel
    by_cases hlt : k < 4
    · have hki : (k : Int) < 4 := by omega
      go_wp2_with fail
      refine (unhide HB _ (unhide HC) _ (by omega) (by omega)).mono ?_
      rintro e w1 ⟨x, rfl, hx0, hx1, hc, hk⟩
      have hgl := (unhide HM).lt
      have hM := (unhide HM).kept hk (by omega)
      have hK := (unhide HK).trans (hk.mono (fun _ _ h => Or.inl h))
      have q1 : IntKind.i64.wrap (65 + x) = 65 + x := by rw [IntKind.wrap_i64]; omega
      have q2 : IntKind.u8.wrap (65 + x) = 65 + x := wrap8d (by omega) (by omega)
      have hB := Below.alloc1 w1 (.cells #[.int .u8 (65 + x)] 5)
      have HMa := hide (hM.below hB)
      have HCa := hide (hc.below hB)
      have HKa := hide (hK.trans (kept_of_below hB))
      have hcl2 := hc.lt
      have hgl2 := hM.lt
      have hsz := (unhide HKa).size
      have HGc : Hid ((w1.alloc (.cells #[.int .u8 (65 + x)] 5)).cell? ⟨w1.heap.size, 0, none⟩ = some (.int .u8 (65 + x))) := by show _ = _; simp
      clear HM HC HK hB hM hK hc hk
      simp only [World.size_alloc] at hsz
      go_wp2_with (at_builtin; go_must (refine wpList_app8 _ (by rfl) _ _ rfl g k cap X rfl (unhide HMa) (by omega) w1.heap.size (65 + x) 1 rfl (unhide HGc) ?_); intro g1 cap1 w3 hM hK hat; have HM1 := hide hM; have hg1 : w.heap.size ≤ g1 := (by simp only [World.size_alloc] at hat; omega); have HC1 := hide ((unhide HCa).kept hK (fun b h => by omega)); have HK1 := hide ((unhide HKa).trans (hK.mono (fun b _ h => Or.inr (by omega)))); clear hM hK hat HMa HCa HKa HGc)
      go_roundg (4 - (k + 1))
      case measure => omega
      case rel => exact ⟨k + 1, g1, cap1, _, by omega, rfl, by go_num, rfl, hg1, unhide HM1, unhide HC1, unhide HK1⟩
    · have hki : ¬ (k : Int) < 4 := by omega
      have hk : k = 4 := by omega
      subst hk
      clear hlt hk4 hki
      go_wp2
      go_loopg [3, 5] 6 (fun gh bv iv wr => ∃ (k m g cap : Nat) (X : List Int), m ≤ 10 ∧ k + 4 = m ∧ gh = 6 - k ∧ iv = .int .i64 k ∧ bv = .slice (some ⟨g, 0, none⟩) m cap ∧ w.heap.size ≤ g ∧ Hid (M8 wr g m cap X) ∧ Hid (Cur wr cb v n) ∧ Hid (Kept (fun b => b = cb ∨ w.heap.size ≤ b) w wr))
      case atStart => exact ⟨0, 4, g, cap, X, by omega, rfl, rfl, rfl, rfl, hg, unhide HM, unhide HC, unhide HK⟩
      case round =>
        clear HC HK HM hg
        obtain ⟨j, k, g, cap, X, hm10, hjm, rfl, rfl, rfl, hg, HM, HC, HK⟩ := hrel
        have HJ := hide hjm
        have hj6 : j ≤ 6 := by omega
        by_cases hlt : j < 6
        · have hki : (j : Int) < 6 := by omega
          have hk10 : k < 10 := by omega
          clear hjm
          go_wp2_with fail
          refine (unhide HB _ (unhide HC) _ (by omega) (by omega)).mono ?_
          rintro e w1 ⟨x, rfl, hx0, hx1, hc, hk⟩
          have hgl := (unhide HM).lt
          have hM := (unhide HM).kept hk (by omega)
          have hK := (unhide HK).trans (hk.mono (fun _ _ h => Or.inl h))
          have q1 : IntKind.i64.wrap (48 + x) = 48 + x := by rw [IntKind.wrap_i64]; omega
          have q2 : IntKind.u8.wrap (48 + x) = 48 + x := wrap8d (by omega) (by omega)
          have hB := Below.alloc1 w1 (.cells #[.int .u8 (48 + x)] 5)
          have HMa := hide (hM.below hB)
          have HCa := hide (hc.below hB)
          have HKa := hide (hK.trans (kept_of_below hB))
          have hcl2 := hc.lt
          have hgl2 := hM.lt
          have hsz := (unhide HKa).size
          have HGc : Hid ((w1.alloc (.cells #[.int .u8 (48 + x)] 5)).cell? ⟨w1.heap.size, 0, none⟩ = some (.int .u8 (48 + x))) := by show _ = _; simp
          clear HM HC HK hB hM hK hc hk
          simp only [World.size_alloc] at hsz
          go_wp2_with (at_builtin; go_must (refine wpList_app8 _ (by rfl) _ _ rfl g k cap X rfl (unhide HMa) (by omega) w1.heap.size (48 + x) 1 rfl (unhide HGc) ?_); intro g1 cap1 w3 hM hK hat; have HM1 := hide hM; have hg1 : w.heap.size ≤ g1 := (by simp only [World.size_alloc] at hat; omega); have HC1 := hide ((unhide HCa).kept hK (fun b h => by omega)); have HK1 := hide ((unhide HKa).trans (hK.mono (fun b _ h => Or.inr (by omega)))); clear hM hK hat HMa HCa HKa HGc)
          go_roundg (6 - (j + 1))
          case measure => omega
          case rel => exact ⟨j + 1, k + 1, g1, cap1, _, by omega, by have := unhide HJ; omega, rfl, by go_num, rfl, hg1, unhide HM1, unhide HC1, unhide HK1⟩
        · have hki : ¬ (j : Int) < 6 := by omega
          have hk : k = 10 := by omega
          subst hk
          clear hjm HJ
          have hcv := (unhide HM).text cap
          have hl := (unhide HM).len
          have HS := hide fun V => specCheckDigit_any (strOfNums X) V
          have hcd := cd_bd (strOfNums X)
          generalize cd (strOfNums X) = c at *
          have HSZ : Hid ((strOfNums (X ++ [48 + c])).size = 11) := by show _ = _; rw [strOfNums_size, List.length_append, hl]; rfl
          generalize strOfNums X = S at *
          obtain ⟨c0, c1⟩ := hcd
          clear hl
          go_wp2_with fail
          refine (unhide HS _).mono ?_
          rintro e w1 ⟨rfl, h9⟩
          have h9' := h9.symm
          subst h9'
          clear h9 HS hcv
          have q1 : IntKind.i64.wrap (48 + c) = 48 + c := by rw [IntKind.wrap_i64]; omega
          have q2 : IntKind.u8.wrap (48 + c) = 48 + c := wrap8d (by omega) (by omega)
          have hgl := (unhide HM).lt
          have hcl2 := (unhide HC).lt
          have hB := Below.alloc1 wr (.cells #[.int .u8 (48 + c)] 5)
          have HMa := hide ((unhide HM).below hB)
          have HCa := hide ((unhide HC).below hB)
          have HKa := hide ((unhide HK).trans (kept_of_below hB))
          have HGc : Hid ((wr.alloc (.cells #[.int .u8 (48 + c)] 5)).cell? ⟨wr.heap.size, 0, none⟩ = some (.int .u8 (48 + c))) := by show _ = _; simp
          clear HM HC HK hB
          go_wp2_with (at_builtin; go_must (refine wpList_app8 _ (by rfl) _ _ rfl g 10 cap X rfl (unhide HMa) (by omega) wr.heap.size (48 + c) 1 rfl (unhide HGc) ?_); intro g1 cap1 w3 hM hK hat; have hcv := hM.text cap1; simp only [Nat.reduceAdd] at hcv; have HC1 := hide ((unhide HCa).kept hK (fun b h => by omega)); have HK1 := hide ((unhide HKa).trans (hK.mono (fun b _ h => Or.inr (by omega)))); clear hM hK hat HMa HCa HKa HGc)
          generalize strOfNums (X ++ [48 + c]) = T at *
          go_wp2
          go_ret
          exact ⟨T, rfl, unhide HSZ, unhide HC1, (unhide HK1).mono (fun b hb h => h.resolve_right (by omega))⟩

end

section
open Go.RowKit

def numsOf (s : ByteArray) : List Int := s.data.toList.map fun b => (b.toNat : Int)
theorem numsOf_len (s : ByteArray) : (numsOf s).length = s.size := by simp [numsOf]
/-- The bytes of a text, laid anew. -/
theorem m8_bytes (w : World) (s : ByteArray) (cap : Nat) (h1 : s.size ≤ cap) (h2 : cap ≤ maxLen) : M8 (w.alloc (.cells (bytesRow s cap) 5 ((bytesRow s cap).size, (bytesRow s cap).size + 1))) w.heap.size s.size cap (numsOf s) := by
  have hs : (bytesRow s cap).size = cap := by simp [bytesRow]; omega
  refine ⟨numsOf_len s, h1, h2, bytesRow s cap, _, _, Go.Deep.blk_alloc_new _ _, hs, Or.inl (by omega), fun i hi => ?_⟩
  rw [bytesRow_at s cap i hi]
  have e := Array.getElem?_eq_getElem (show i < s.data.size from hi)
  simp [numsOf, List.getD, e]

set_option maxHeartbeats 800000 in
theorem l1PickS_any (cb n : Nat) (v : Value) (g m : Nat) (L : List ByteArray) (w : World) (h : Cur w cb v n) (hn : n ≤ 1048576) (hx : OwnV w g (L.map Value.string)) (hg : g ≠ cb) (hm : L.length = m) (hm0 : 1 ≤ m) (hm1 : m ≤ 256) :
    Calls Try.prog 123 #[.pointer (some ⟨cb, 0, none⟩), .slice (some ⟨g, 0, none⟩) m m] w fun e w' => ∃ s, e = .returned (.string s) ∧ s ∈ L ∧ Cur w' cb v n ∧ Kept (fun b => b = cb) w w' := by
  have HB := hide (l1Below_any cb n v m w h hn (by omega) (by omega))
  have HX := hide hx
  have HM := hide hm
  clear h hx hm
  go_enter Try.func123, Try.ntmps123
  go_wp2_with fail
  refine (unhide HB).mono ?_
  rintro e w1 ⟨x, rfl, hx0, hx1, hc, hk⟩
  have HC := hide hc
  have HK := hide hk
  obtain ⟨j, rfl⟩ : ∃ j : Nat, x = (j : Int) := ⟨x.toNat, by omega⟩
  have hj : j < L.length := by rw [unhide HM]; omega
  have cj := ((unhide HX).kept hk hg).cell (i := j) (v := .string L[j]) (by simp [List.getElem?_eq_getElem hj])
  have HMem := hide (List.getElem_mem hj)
  generalize L[j] = s at *
  clear hc hk hj
  go_wp2
  go_ret
  exact ⟨_, rfl, unhide HMem, unhide HC, unhide HK⟩

set_option maxRecDepth 10000 in
set_option maxHeartbeats 6400000 in
theorem l11DrawText_any (cb n : Nat) (v : Value) (w : World) (h : Cur w cb v n) (hn : n ≤ 1048576) :
    Calls Try.prog 111 #[.pointer (some ⟨cb, 0, none⟩)] w fun e w' => ∃ s : ByteArray, e = .returned (.string s) ∧ Cur w' cb v n ∧ Kept (fun b => b = cb) w w' := by
  have hcl := h.lt
  have HN := hide (l11DrawName_any cb n v w h hn)
  have HB := hide fun W (hW : Cur W cb v n) k h0 h1 => l1Below_any cb n v k W hW hn h0 h1
  have HP := hide fun W (hW : Cur W cb v n) g m L => l1PickS_any cb n v g m L W hW hn
  clear h
  go_enter Try.func111, Try.ntmps111
  go_wp2_with fail
  refine (unhide HN).mono ?_
  rintro e w1 ⟨s, rfl, hs, hc, hk⟩
  have hcv := run_bytes_of_string (P := Try.prog) w1 9 22 5 s Try.underlying9 Try.underlying22 Try.underlying5
  have hcg := grownCap_ge w1 s.size 0 5
  have hcm := grownCap_le_maxLen w1 s.size 0 5 (by rw [hs]; unfold maxLen; omega)
  have hM := m8_bytes w1.drew s (grownCap w1 s.size 0 5) hcg hcm
  generalize grownCap w1 s.size 0 5 = cap at *
  rw [hs] at hcv hM hcg
  generalize bytesRow s cap = row at *
  have hB := (Below.alloc1 w1 (.cells row 5 (row.size, row.size + 1))).drew
  have HC := hide (hc.below hB)
  have HK := hide ((hk.mono (T' := fun b => b = cb ∨ w.heap.size ≤ b) (fun _ _ h => Or.inl h)).trans (kept_of_below hB))
  have hgw : w.heap.size ≤ w1.heap.size := hk.size
  have HM : Hid (M8 (w1.alloc (.cells row 5 (row.size, row.size + 1))).drew w1.heap.size 11 cap (numsOf s)) := hM.of_block rfl
  generalize numsOf s = X at *
  clear hs hc hk hM hB HN
  go_wp2_with fail
  clear hcv
  generalize (w1.alloc (.cells row 5 (row.size, row.size + 1))).drew = V at *
  obtain ⟨g, eg⟩ : ∃ g, g = w1.heap.size := ⟨_, rfl⟩
  rw [← eg] at HM hgw ⊢
  clear eg
  refine (unhide HB _ (unhide HC) _ (by omega) (by omega)).mono ?_
  rintro e w2 ⟨kx, rfl, hk0, hk1, hc, hk⟩
  have hgl := (unhide HM).lt
  replace HM := hide ((unhide HM).kept hk (by omega))
  replace HC := hide hc
  replace HK := hide ((unhide HK).trans (hk.mono (fun _ _ h => Or.inl h)))
  clear hc hk
  obtain ⟨k, rfl⟩ : ∃ k : Nat, kx = (k : Int) := ⟨kx.toNat, by omega⟩
  go_wp2_with fail
  refine (unhide HB _ (unhide HC) _ (by omega) (by omega)).mono ?_
  rintro e w3 ⟨x, rfl, hx0, hx1, hc, hk⟩
  have hgl := (unhide HM).lt
  replace HM := hide ((unhide HM).kept hk (by omega))
  replace HC := hide hc
  replace HK := hide ((unhide HK).trans (hk.mono (fun _ _ h => Or.inl h)))
  have hcl3 := (unhide HC).lt
  have hgl3 := (unhide HM).lt
  have hsz3 := (unhide HK).size
  clear hc hk
  have hxx : x = 0 ∨ x = 1 ∨ x = 2 ∨ x = 3 ∨ x = 4 := by omega
  have hkn : k < 11 := by omega
  rcases hxx with rfl | rfl | rfl | rfl | rfl
  · have hB := Below.alloc1 w3 (.cells #[.string ⟨#[97]⟩, .string ⟨#[48]⟩, .string ⟨#[90]⟩, .string ⟨#[32]⟩, .string ⟨#[53]⟩, .string ⟨#[75]⟩] 9)
    have HO : Hid (OwnV (w3.alloc (.cells #[.string ⟨#[97]⟩, .string ⟨#[48]⟩, .string ⟨#[90]⟩, .string ⟨#[32]⟩, .string ⟨#[53]⟩, .string ⟨#[75]⟩] 9)) w3.heap.size (List.map Value.string [⟨#[97]⟩, ⟨#[48]⟩, ⟨#[90]⟩, ⟨#[32]⟩, ⟨#[53]⟩, ⟨#[75]⟩])) := ownV_alloc w3 #[.string ⟨#[97]⟩, .string ⟨#[48]⟩, .string ⟨#[90]⟩, .string ⟨#[32]⟩, .string ⟨#[53]⟩, .string ⟨#[75]⟩] 9
    replace HM := hide ((unhide HM).below hB)
    replace HC := hide ((unhide HC).below hB)
    replace HK := hide ((unhide HK).trans (kept_of_below hB))
    clear hB
    go_wp2_with fail
    refine (unhide HP _ (unhide HC) _ 6 _ (unhide HO) (by omega) rfl (by omega) (by omega)).mono ?_
    rintro e w4 ⟨t, rfl, hmem, hc, hk⟩
    replace HM := hide ((unhide HM).kept hk (by omega))
    replace HK := hide ((unhide HK).trans (hk.mono (fun _ _ h => Or.inl h)))
    have hts : t.size = 1 := by
      simp only [List.mem_cons, List.not_mem_nil, or_false] at hmem
      rcases hmem with rfl | rfl | rfl | rfl | rfl | rfl <;> rfl
    have hix : ∀ V, (Instr.index 9 (.string t) (.int .i64 0)).run Try.prog V = .ok (.int .u8 (byt t 0)) V := fun V => by
      rw [run_index_string V _ _ _ _ Try.underlying9, dif_pos (by omega), ← byt_eq t 0 (by omega)]
      rfl
    generalize byt t 0 = y at *
    have c0 := (unhide HM).cell (i := k) hkn
    have f0 := (unhide HM).frozen (i := k) (by omega)
    have HMs := hide ((unhide HM).set (i := k) hkn y)
    have HCs := hide (hc.kept ((Kept.refl (fun b => b = g) w4).setCell (p := ⟨g, k, none⟩) rfl (.int .u8 y)) (fun b h => by omega))
    have HKs := hide ((unhide HK).setCell (p := ⟨g, k, none⟩) (Or.inr hgw) (.int .u8 y))
    have hcv := (unhide HMs).text cap
    have hki : (k : Int) < 11 := by omega
    clear HM HC HK hc hk hmem hts HP HO
    generalize X.getD k 0 = x0 at *
    generalize strOfNums (X.set k y) = T at *
    go_wp2
    go_ret
    exact ⟨T, rfl, unhide HCs, (unhide HKs).mono (fun b hb h => h.resolve_right (by omega))⟩
  · have hB := Below.alloc1 w3 (.cells #[.int .u8 48] 5)
    have HMa := hide ((unhide HM).below hB)
    have HCa := hide ((unhide HC).below hB)
    have HKa := hide ((unhide HK).trans (kept_of_below hB))
    have HGc : Hid ((w3.alloc (.cells #[.int .u8 48] 5)).cell? ⟨w3.heap.size, 0, none⟩ = some (.int .u8 48)) := by show _ = _; simp
    clear HM HC HK hB
    go_wp2_with (at_builtin; go_must (refine wpList_app8 _ (by rfl) _ _ rfl g 11 cap X rfl (unhide HMa) (by omega) w3.heap.size 48 1 rfl (unhide HGc) ?_); intro g1 cap1 w5 hM hK hat; have hcv := hM.text cap1; simp only [Nat.reduceAdd] at hcv; have HC1 := hide ((unhide HCa).kept hK (fun b h => by omega)); have HK1 := hide ((unhide HKa).trans (hK.mono (fun b _ h => Or.inr (by omega)))); generalize strOfNums (X ++ [48]) = T at hcv; clear hM hK hat HMa HCa HKa HGc)
    go_ret
    exact ⟨T, rfl, unhide HC1, (unhide HK1).mono (fun b hb h => h.resolve_right (by omega))⟩
  · have hcv := ((unhide HM).take (m := k) (by omega)).text cap
    have hki : (k : Int) ≤ 11 := by omega
    have hkc : (k : Int) ≤ cap := by omega
    generalize strOfNums (X.take k) = T at *
    go_wp2
    go_ret
    exact ⟨T, rfl, unhide HC, (unhide HK).mono (fun b hb h => h.resolve_right (by omega))⟩
  · go_wp2_with fail
    refine (unhide HB _ (unhide HC) _ (by omega) (by omega)).mono ?_
    rintro e w4 ⟨x, rfl, hx0, hx1, hc, hk⟩
    replace HM := hide ((unhide HM).kept hk (by omega))
    replace HK := hide ((unhide HK).trans (hk.mono (fun _ _ h => Or.inl h)))
    have q1 : IntKind.i64.wrap (48 + x) = 48 + x := by rw [IntKind.wrap_i64]; omega
    have q2 : IntKind.u8.wrap (48 + x) = 48 + x := wrap8d (by omega) (by omega)
    have c0 := (unhide HM).cell (i := 10) (by omega)
    have f0 := (unhide HM).frozen (i := 10) (by omega)
    have HMs := hide ((unhide HM).set (i := 10) (by omega) (48 + x))
    have HCs := hide (hc.kept ((Kept.refl (fun b => b = g) w4).setCell (p := ⟨g, 10, none⟩) rfl (.int .u8 (48 + x))) (fun b h => by omega))
    have HKs := hide ((unhide HK).setCell (p := ⟨g, 10, none⟩) (Or.inr hgw) (.int .u8 (48 + x)))
    have hcv := (unhide HMs).text cap
    clear HM HC HK hc hk
    generalize X.getD 10 0 = x0 at *
    generalize strOfNums (X.set 10 (48 + x)) = T at *
    go_wp2
    go_ret
    exact ⟨T, rfl, unhide HCs, (unhide HKs).mono (fun b hb h => h.resolve_right (by omega))⟩
  · have hcv := (unhide HM).text cap
    generalize strOfNums X = T at *
    go_wp2
    go_ret
    exact ⟨T, rfl, unhide HC, (unhide HK).mono (fun b hb h => h.resolve_right (by omega))⟩

end

section
open Go.RowKit

set_option maxRecDepth 10000 in
set_option maxHeartbeats 6400000 in
theorem l11Draw_any (cb n : Nat) (v : Value) (w : World) (h : Cur w cb v n) (hn : n ≤ 1048576) :
    Calls Try.prog 73 #[.pointer (some ⟨cb, 0, none⟩)] w fun e w' => ∃ s wt cl co fr to, e = .returned (vBox s wt cl co fr to) ∧ Cur w' cb v n ∧ Kept (fun b => b = cb) w w' := by
  have hcl := h.lt
  have hA := Below.alloc1 w (.cells #[.string ⟨#[]⟩, .int .i64 0, .int .i64 0, .bool false, .int .i64 0, .int .i64 0] 27)
  have HC := hide (h.below hA)
  have HK : Hid (Kept (fun b => b = cb ∨ w.heap.size ≤ b) w (w.alloc (.cells #[.string ⟨#[]⟩, .int .i64 0, .int .i64 0, .bool false, .int .i64 0, .int .i64 0] 27))) := kept_of_below hA
  have HO := hide (ownV_alloc w #[.string ⟨#[]⟩, .int .i64 0, .int .i64 0, .bool false, .int .i64 0, .int .i64 0] 27)
  have HB := hide fun W (hW : Cur W cb v n) k h0 h1 => l1Below_any cb n v k W hW hn h0 h1
  have HQ := hide fun W (hW : Cur W cb v n) k h0 h1 => l1Once_any cb n v k W hW hn h0 h1
  have HN := hide fun W (hW : Cur W cb v n) => l11DrawName_any cb n v W hW hn
  clear h hA
  go_enter Try.func73, Try.ntmps73
  go_wp2_with fail
  refine (unhide HB _ (unhide HC) _ (by omega) (by omega)).mono ?_
  rintro e w1 ⟨x1, rfl, x1a, x1b, hc, hk⟩
  replace HC := hide hc
  replace HO := hide ((unhide HO).kept hk (by omega))
  replace HK := hide ((unhide HK).trans (hk.mono (fun _ _ h => Or.inl h)))
  clear hc hk
  go_wp2_with fail
  refine (unhide HN _ (unhide HC)).mono ?_
  rintro e w2 ⟨s, rfl, hs, hc, hk⟩
  replace HC := hide hc
  replace HO := hide ((unhide HO).kept hk (by omega))
  replace HK := hide ((unhide HK).trans (hk.mono (fun _ _ h => Or.inl h)))
  clear hc hk hs
  go_wp2_with fail
  refine (unhide HB _ (unhide HC) _ (by omega) (by omega)).mono ?_
  rintro e w3 ⟨x3, rfl, x3a, x3b, hc, hk⟩
  replace HC := hide hc
  replace HO := hide ((unhide HO).kept hk (by omega))
  replace HK := hide ((unhide HK).trans (hk.mono (fun _ _ h => Or.inl h)))
  clear hc hk
  go_wp2_with fail
  refine (unhide HB _ (unhide HC) _ (by omega) (by omega)).mono ?_
  rintro e w4 ⟨x4, rfl, x4a, x4b, hc, hk⟩
  replace HC := hide hc
  replace HO := hide ((unhide HO).kept hk (by omega))
  replace HK := hide ((unhide HK).trans (hk.mono (fun _ _ h => Or.inl h)))
  clear hc hk
  have hs4 := (unhide HK).size
  have ho4 := (unhide HO).lt
  have hA := Below.alloc1 w4 (.cells #[.string s, .int .i64 (1 + x3), .int .i64 0, .bool false, .int .i64 x1, .int .i64 (x1 + 1 + x4)] 27)
  have HX := hide (ownV_alloc w4 #[.string s, .int .i64 (1 + x3), .int .i64 0, .bool false, .int .i64 x1, .int .i64 (x1 + 1 + x4)] 27)
  replace HC := hide ((unhide HC).below hA)
  replace HO := hide ((unhide HO).step hA)
  replace HK := hide ((unhide HK).trans (kept_of_below hA))
  clear hA
  have hx4 := (unhide HX).lt
  have hl4 := (unhide HC).lt
  simp only [World.size_alloc] at hx4 hl4
  go_wp2_with fail
  refine (unhide HQ _ (unhide HC) _ (by omega) (by omega)).mono ?_
  rintro e w5 ⟨q5, rfl, hc, hk⟩
  replace HC := hide hc
  replace HO := hide ((unhide HO).kept hk (by omega))
  replace HX := hide ((unhide HX).kept hk (by omega))
  replace HK := hide ((unhide HK).trans (hk.mono (fun _ _ h => Or.inl h)))
  clear hc hk
  generalize 1 + x3 = f1 at *
  generalize x1 + 1 + x4 = f5 at *
  cases q5 with
  | true =>
    go_wp2_with fail
    refine (unhide HB _ (unhide HC) _ (by omega) (by omega)).mono ?_
    rintro e w6 ⟨x6, rfl, x6a, x6b, hc, hk⟩
    replace HC := hide hc
    replace HO := hide ((unhide HO).kept hk (by omega))
    replace HX := hide ((unhide HX).kept hk (by omega))
    replace HK := hide ((unhide HK).trans (hk.mono (fun _ _ h => Or.inl h)))
    clear hc hk
    have kc := (unhide HX).cell (i := 2) rfl
    have kf := (unhide HX).frozen 2
    have hS := (Kept.refl (fun b => b = w4.heap.size) w6).setCell (p := ⟨w4.heap.size, 2, none⟩) rfl (.int .i64 x6)
    have HX2 := hide ((unhide HX).set 2 (.int .i64 x6) (by simp))
    have HO2 := hide ((unhide HO).kept hS (by omega))
    have HC2 := hide ((unhide HC).kept hS (fun b h => by omega))
    have HK2 := hide ((unhide HK).setCell (p := ⟨w4.heap.size, 2, none⟩) (Or.inr (by omega)) (.int .i64 x6))
    generalize hV : w6.setCell ⟨w4.heap.size, 2, none⟩ (.int .i64 x6) = V6 at HX2 HO2 HC2 HK2
    clear hS HX HC HK HO
    simp only [List.set_cons_zero, List.set_cons_succ] at HX2
    have HX := HX2
    have HO := HO2
    have HC := HC2
    have HK := HK2
    clear HX2 HO2 HC2 HK2
    go_wp2_with fail
    clear hV kc kf
    refine (unhide HQ _ (unhide HC) _ (by omega) (by omega)).mono ?_
    rintro e w7 ⟨q7, rfl, hc, hk⟩
    replace HC := hide hc
    replace HO := hide ((unhide HO).kept hk (by omega))
    replace HX := hide ((unhide HX).kept hk (by omega))
    replace HK := hide ((unhide HK).trans (hk.mono (fun _ _ h => Or.inl h)))
    clear hc hk
    have kc := (unhide HX).cell (i := 3) rfl
    have kf := (unhide HX).frozen 3
    have hS := (Kept.refl (fun b => b = w4.heap.size) w7).setCell (p := ⟨w4.heap.size, 3, none⟩) rfl (.bool q7)
    have HX2 := hide ((unhide HX).set 3 (.bool q7) (by simp))
    have HO2 := hide ((unhide HO).kept hS (by omega))
    have HC2 := hide ((unhide HC).kept hS (fun b h => by omega))
    have HK2 := hide ((unhide HK).setCell (p := ⟨w4.heap.size, 3, none⟩) (Or.inr (by omega)) (.bool q7))
    generalize hV : w7.setCell ⟨w4.heap.size, 3, none⟩ (.bool q7) = V at HX2 HO2 HC2 HK2
    clear hS HX HC HK HO
    simp only [List.set_cons_zero, List.set_cons_succ] at HX2
    have HX := HX2
    have HO := HO2
    have HC := HC2
    have HK := HK2
    clear HX2 HO2 HC2 HK2
    have d0 := (unhide HO).cell (i := 0) rfl
    have df0 := (unhide HO).frozen 0
    have e0 := (unhide HX).cell (i := 0) rfl
    have d1 := (unhide HO).cell (i := 1) rfl
    have df1 := (unhide HO).frozen 1
    have e1 := (unhide HX).cell (i := 1) rfl
    have d2 := (unhide HO).cell (i := 2) rfl
    have df2 := (unhide HO).frozen 2
    have e2 := (unhide HX).cell (i := 2) rfl
    have d3 := (unhide HO).cell (i := 3) rfl
    have df3 := (unhide HO).frozen 3
    have e3 := (unhide HX).cell (i := 3) rfl
    have d4 := (unhide HO).cell (i := 4) rfl
    have df4 := (unhide HO).frozen 4
    have e4 := (unhide HX).cell (i := 4) rfl
    have d5 := (unhide HO).cell (i := 5) rfl
    have df5 := (unhide HO).frozen 5
    have e5 := (unhide HX).cell (i := 5) rfl
    have hKf := ((((((Kept.refl (fun b => b = w.heap.size) V).setCell (p := ⟨w.heap.size, 0, none⟩) rfl (.string s)).setCell (p := ⟨w.heap.size, 1, none⟩) rfl (.int .i64 f1)).setCell (p := ⟨w.heap.size, 2, none⟩) rfl (.int .i64 x6)).setCell (p := ⟨w.heap.size, 3, none⟩) rfl (.bool q7)).setCell (p := ⟨w.heap.size, 4, none⟩) rfl (.int .i64 x1)).setCell (p := ⟨w.heap.size, 5, none⟩) rfl (.int .i64 f5)
    have HOf := hide ((((((unhide HO).set 0 (.string s) (by simp)).set 1 (.int .i64 f1) (by simp)).set 2 (.int .i64 x6) (by simp)).set 3 (.bool q7) (by simp)).set 4 (.int .i64 x1) (by simp) |>.set 5 (.int .i64 f5) (by simp))
    have HCf := hide ((unhide HC).kept hKf (fun b h => by omega))
    have HKf := hide ((unhide HK).trans (hKf.mono (fun b _ h => Or.inr (by omega))))
    clear hKf
    have k0 := (unhide HOf).cell (i := 0) rfl
    have k1 := (unhide HOf).cell (i := 1) rfl
    have k2 := (unhide HOf).cell (i := 2) rfl
    have k3 := (unhide HOf).cell (i := 3) rfl
    have k4 := (unhide HOf).cell (i := 4) rfl
    have k5 := (unhide HOf).cell (i := 5) rfl
    go_wp2
    refine bodyPost_ret (v := vBox s f1 x6 q7 x1 f5) (by simp [results, Try.results73, go_sem, vBox, k0, k1, k2, k3, k4, k5]) rfl ⟨_, _, _, _, _, _, rfl, unhide HCf, (unhide HKf).mono (fun b hb h => h.resolve_right (by omega))⟩
  | false =>
    go_wp2_with fail
    refine (unhide HQ _ (unhide HC) _ (by omega) (by omega)).mono ?_
    rintro e w7 ⟨q7, rfl, hc, hk⟩
    replace HC := hide hc
    replace HO := hide ((unhide HO).kept hk (by omega))
    replace HX := hide ((unhide HX).kept hk (by omega))
    replace HK := hide ((unhide HK).trans (hk.mono (fun _ _ h => Or.inl h)))
    clear hc hk
    have kc := (unhide HX).cell (i := 3) rfl
    have kf := (unhide HX).frozen 3
    have hS := (Kept.refl (fun b => b = w4.heap.size) w7).setCell (p := ⟨w4.heap.size, 3, none⟩) rfl (.bool q7)
    have HX2 := hide ((unhide HX).set 3 (.bool q7) (by simp))
    have HO2 := hide ((unhide HO).kept hS (by omega))
    have HC2 := hide ((unhide HC).kept hS (fun b h => by omega))
    have HK2 := hide ((unhide HK).setCell (p := ⟨w4.heap.size, 3, none⟩) (Or.inr (by omega)) (.bool q7))
    generalize hV : w7.setCell ⟨w4.heap.size, 3, none⟩ (.bool q7) = V at HX2 HO2 HC2 HK2
    clear hS HX HC HK HO
    simp only [List.set_cons_zero, List.set_cons_succ] at HX2
    have HX := HX2
    have HO := HO2
    have HC := HC2
    have HK := HK2
    clear HX2 HO2 HC2 HK2
    have d0 := (unhide HO).cell (i := 0) rfl
    have df0 := (unhide HO).frozen 0
    have e0 := (unhide HX).cell (i := 0) rfl
    have d1 := (unhide HO).cell (i := 1) rfl
    have df1 := (unhide HO).frozen 1
    have e1 := (unhide HX).cell (i := 1) rfl
    have d2 := (unhide HO).cell (i := 2) rfl
    have df2 := (unhide HO).frozen 2
    have e2 := (unhide HX).cell (i := 2) rfl
    have d3 := (unhide HO).cell (i := 3) rfl
    have df3 := (unhide HO).frozen 3
    have e3 := (unhide HX).cell (i := 3) rfl
    have d4 := (unhide HO).cell (i := 4) rfl
    have df4 := (unhide HO).frozen 4
    have e4 := (unhide HX).cell (i := 4) rfl
    have d5 := (unhide HO).cell (i := 5) rfl
    have df5 := (unhide HO).frozen 5
    have e5 := (unhide HX).cell (i := 5) rfl
    have hKf := ((((((Kept.refl (fun b => b = w.heap.size) V).setCell (p := ⟨w.heap.size, 0, none⟩) rfl (.string s)).setCell (p := ⟨w.heap.size, 1, none⟩) rfl (.int .i64 f1)).setCell (p := ⟨w.heap.size, 2, none⟩) rfl (.int .i64 0)).setCell (p := ⟨w.heap.size, 3, none⟩) rfl (.bool q7)).setCell (p := ⟨w.heap.size, 4, none⟩) rfl (.int .i64 x1)).setCell (p := ⟨w.heap.size, 5, none⟩) rfl (.int .i64 f5)
    have HOf := hide ((((((unhide HO).set 0 (.string s) (by simp)).set 1 (.int .i64 f1) (by simp)).set 2 (.int .i64 0) (by simp)).set 3 (.bool q7) (by simp)).set 4 (.int .i64 x1) (by simp) |>.set 5 (.int .i64 f5) (by simp))
    have HCf := hide ((unhide HC).kept hKf (fun b h => by omega))
    have HKf := hide ((unhide HK).trans (hKf.mono (fun b _ h => Or.inr (by omega))))
    clear hKf
    have k0 := (unhide HOf).cell (i := 0) rfl
    have k1 := (unhide HOf).cell (i := 1) rfl
    have k2 := (unhide HOf).cell (i := 2) rfl
    have k3 := (unhide HOf).cell (i := 3) rfl
    have k4 := (unhide HOf).cell (i := 4) rfl
    have k5 := (unhide HOf).cell (i := 5) rfl
    go_wp2
    refine bodyPost_ret (v := vBox s f1 0 q7 x1 f5) (by simp [results, Try.results73, go_sem, vBox, k0, k1, k2, k3, k4, k5]) rfl ⟨_, _, _, _, _, _, rfl, unhide HCf, (unhide HKf).mono (fun b hb h => h.resolve_right (by omega))⟩

end

section
open Go.RowKit

set_option maxRecDepth 10000 in
set_option maxHeartbeats 6400000 in
theorem l11DrawAny_any (cb n : Nat) (v : Value) (w : World) (h : Cur w cb v n) (hn : n ≤ 1048576) :
    Calls Try.prog 74 #[.pointer (some ⟨cb, 0, none⟩)] w fun e w' => ∃ s wt cl co fr to, e = .returned (vBox s wt cl co fr to) ∧ Cur w' cb v n ∧ Kept (fun b => b = cb) w w' := by
  have hcl := h.lt
  have hA := Below.alloc1 w (.cells #[.string ⟨#[]⟩, .int .i64 0, .int .i64 0, .bool false, .int .i64 0, .int .i64 0] 27)
  have HC := hide (h.below hA)
  have HK : Hid (Kept (fun b => b = cb ∨ w.heap.size ≤ b) w (w.alloc (.cells #[.string ⟨#[]⟩, .int .i64 0, .int .i64 0, .bool false, .int .i64 0, .int .i64 0] 27))) := kept_of_below hA
  have HO := hide (ownV_alloc w #[.string ⟨#[]⟩, .int .i64 0, .int .i64 0, .bool false, .int .i64 0, .int .i64 0] 27)
  have HB := hide fun W (hW : Cur W cb v n) k h0 h1 => l1Below_any cb n v k W hW hn h0 h1
  have HP := hide fun W (hW : Cur W cb v n) g m xs => l1PickInt_any cb n v g m xs W hW hn
  have HD := hide fun W (hW : Cur W cb v n) => l11Draw_any cb n v W hW hn
  have HT := hide fun W (hW : Cur W cb v n) => l11DrawText_any cb n v W hW hn
  clear h hA
  go_enter Try.func74, Try.ntmps74
  go_wp2_with fail
  refine (unhide HD _ (unhide HC)).mono ?_
  rintro e w1 ⟨s, wt, cl, co, fr, to, rfl, hc, hk⟩
  replace HC := hide hc
  replace HO := hide ((unhide HO).kept hk (by omega))
  replace HK := hide ((unhide HK).trans (hk.mono (fun _ _ h => Or.inl h)))
  clear hc hk HD
  unfold vBox
  have hs1 := (unhide HK).size
  have ho1 := (unhide HO).lt
  have hA := Below.alloc1 w1 (.cells #[.string s, .int .i64 wt, .int .i64 cl, .bool co, .int .i64 fr, .int .i64 to] 27)
  have HX := hide (ownV_alloc w1 #[.string s, .int .i64 wt, .int .i64 cl, .bool co, .int .i64 fr, .int .i64 to] 27)
  replace HC := hide ((unhide HC).below hA)
  replace HO := hide ((unhide HO).step hA)
  replace HK := hide ((unhide HK).trans (kept_of_below hA))
  clear hA
  have hx1 := (unhide HX).lt
  have hl1 := (unhide HC).lt
  simp only [World.size_alloc] at hx1 hl1
  go_wp2_with fail
  refine (unhide HB _ (unhide HC) _ (by omega) (by omega)).mono ?_
  rintro e w2 ⟨x2, rfl, x2a, x2b, hc, hk⟩
  replace HC := hide hc
  replace HO := hide ((unhide HO).kept hk (by omega))
  replace HX := hide ((unhide HX).kept hk (by omega))
  replace HK := hide ((unhide HK).trans (hk.mono (fun _ _ h => Or.inl h)))
  clear hc hk
  have hl2 := (unhide HC).lt
  have hx2 := (unhide HX).lt
  have ho2 := (unhide HO).lt
  have hxx : x2 = 0 ∨ x2 = 1 ∨ x2 = 2 ∨ x2 = 3 ∨ x2 = 4 ∨ 4 < x2 := by omega
  rcases hxx with rfl | rfl | rfl | rfl | rfl | hx
  · go_wp2_with fail
    refine (unhide HT _ (unhide HC)).mono ?_
    rintro e w3 ⟨y, rfl, hc, hk⟩
    replace HC := hide hc
    replace HO := hide ((unhide HO).kept hk (by omega))
    replace HX := hide ((unhide HX).kept hk (by omega))
    replace HK := hide ((unhide HK).trans (hk.mono (fun _ _ h => Or.inl h)))
    clear hc hk HB HP HT
    have kc := (unhide HX).cell (i := 0) rfl
    have kf := (unhide HX).frozen 0
    have hS := (Kept.refl (fun b => b = w1.heap.size) w3).setCell (p := ⟨w1.heap.size, 0, none⟩) rfl (.string y)
    have HX2 := hide ((unhide HX).set 0 (.string y) (by simp))
    have HO2 := hide ((unhide HO).kept hS (by omega))
    have HC2 := hide ((unhide HC).kept hS (fun b h => by omega))
    have HK2 := hide ((unhide HK).setCell (p := ⟨w1.heap.size, 0, none⟩) (Or.inr (by omega)) (.string y))
    generalize hV : w3.setCell ⟨w1.heap.size, 0, none⟩ (.string y) = V at HX2 HO2 HC2 HK2
    clear hS HX HC HK HO
    simp only [List.set_cons_zero] at HX2
    have HX := HX2
    have HO := HO2
    have HC := HC2
    have HK := HK2
    clear HX2 HO2 HC2 HK2
    have d0 := (unhide HO).cell (i := 0) rfl
    have df0 := (unhide HO).frozen 0
    have e0 := (unhide HX).cell (i := 0) rfl
    have d1 := (unhide HO).cell (i := 1) rfl
    have df1 := (unhide HO).frozen 1
    have e1 := (unhide HX).cell (i := 1) rfl
    have d2 := (unhide HO).cell (i := 2) rfl
    have df2 := (unhide HO).frozen 2
    have e2 := (unhide HX).cell (i := 2) rfl
    have d3 := (unhide HO).cell (i := 3) rfl
    have df3 := (unhide HO).frozen 3
    have e3 := (unhide HX).cell (i := 3) rfl
    have d4 := (unhide HO).cell (i := 4) rfl
    have df4 := (unhide HO).frozen 4
    have e4 := (unhide HX).cell (i := 4) rfl
    have d5 := (unhide HO).cell (i := 5) rfl
    have df5 := (unhide HO).frozen 5
    have e5 := (unhide HX).cell (i := 5) rfl
    have hKf := ((((((Kept.refl (fun b => b = w.heap.size) V).setCell (p := ⟨w.heap.size, 0, none⟩) rfl (.string y)).setCell (p := ⟨w.heap.size, 1, none⟩) rfl (.int .i64 wt)).setCell (p := ⟨w.heap.size, 2, none⟩) rfl (.int .i64 cl)).setCell (p := ⟨w.heap.size, 3, none⟩) rfl (.bool co)).setCell (p := ⟨w.heap.size, 4, none⟩) rfl (.int .i64 fr)).setCell (p := ⟨w.heap.size, 5, none⟩) rfl (.int .i64 to)
    have HOf := hide ((((((unhide HO).set 0 (.string y) (by simp)).set 1 (.int .i64 wt) (by simp)).set 2 (.int .i64 cl) (by simp)).set 3 (.bool co) (by simp)).set 4 (.int .i64 fr) (by simp) |>.set 5 (.int .i64 to) (by simp))
    have HCf := hide ((unhide HC).kept hKf (fun b h => by omega))
    have HKf := hide ((unhide HK).trans (hKf.mono (fun b _ h => Or.inr (by omega))))
    clear hKf
    have k0 := (unhide HOf).cell (i := 0) rfl
    have k1 := (unhide HOf).cell (i := 1) rfl
    have k2 := (unhide HOf).cell (i := 2) rfl
    have k3 := (unhide HOf).cell (i := 3) rfl
    have k4 := (unhide HOf).cell (i := 4) rfl
    have k5 := (unhide HOf).cell (i := 5) rfl
    go_wp2
    refine bodyPost_ret (v := vBox y wt cl co fr to) (by simp [results, Try.results74, go_sem, vBox, k0, k1, k2, k3, k4, k5]) rfl ⟨_, _, _, _, _, _, rfl, unhide HCf, (unhide HKf).mono (fun b hb h => h.resolve_right (by omega))⟩
  · have hA := Below.alloc1 w2 (.cells #[.int .i64 (0), .int .i64 (40000), .int .i64 (40001), .int .i64 (-1)] 3)
    have HY : Hid (OwnV (w2.alloc (.cells #[.int .i64 (0), .int .i64 (40000), .int .i64 (40001), .int .i64 (-1)] 3)) w2.heap.size (ints [0, 40000, 40001, -1])) := ownV_alloc w2 #[.int .i64 (0), .int .i64 (40000), .int .i64 (40001), .int .i64 (-1)] 3
    replace HC := hide ((unhide HC).below hA)
    replace HO := hide ((unhide HO).step hA)
    replace HX := hide ((unhide HX).step hA)
    replace HK := hide ((unhide HK).trans (kept_of_below hA))
    clear hA
    go_wp2_with fail
    refine (unhide HP _ (unhide HC) _ 4 _ (unhide HY) (by omega) rfl (by omega) (by omega)).mono ?_
    rintro e w3 ⟨y, rfl, hc, hk⟩
    clear HY
    replace HC := hide hc
    replace HO := hide ((unhide HO).kept hk (by omega))
    replace HX := hide ((unhide HX).kept hk (by omega))
    replace HK := hide ((unhide HK).trans (hk.mono (fun _ _ h => Or.inl h)))
    clear hc hk HB HP HT
    have kc := (unhide HX).cell (i := 1) rfl
    have kf := (unhide HX).frozen 1
    have hS := (Kept.refl (fun b => b = w1.heap.size) w3).setCell (p := ⟨w1.heap.size, 1, none⟩) rfl (.int .i64 y)
    have HX2 := hide ((unhide HX).set 1 (.int .i64 y) (by simp))
    have HO2 := hide ((unhide HO).kept hS (by omega))
    have HC2 := hide ((unhide HC).kept hS (fun b h => by omega))
    have HK2 := hide ((unhide HK).setCell (p := ⟨w1.heap.size, 1, none⟩) (Or.inr (by omega)) (.int .i64 y))
    generalize hV : w3.setCell ⟨w1.heap.size, 1, none⟩ (.int .i64 y) = V at HX2 HO2 HC2 HK2
    clear hS HX HC HK HO
    simp only [List.set_cons_zero, List.set_cons_succ] at HX2
    have HX := HX2
    have HO := HO2
    have HC := HC2
    have HK := HK2
    clear HX2 HO2 HC2 HK2
    have d0 := (unhide HO).cell (i := 0) rfl
    have df0 := (unhide HO).frozen 0
    have e0 := (unhide HX).cell (i := 0) rfl
    have d1 := (unhide HO).cell (i := 1) rfl
    have df1 := (unhide HO).frozen 1
    have e1 := (unhide HX).cell (i := 1) rfl
    have d2 := (unhide HO).cell (i := 2) rfl
    have df2 := (unhide HO).frozen 2
    have e2 := (unhide HX).cell (i := 2) rfl
    have d3 := (unhide HO).cell (i := 3) rfl
    have df3 := (unhide HO).frozen 3
    have e3 := (unhide HX).cell (i := 3) rfl
    have d4 := (unhide HO).cell (i := 4) rfl
    have df4 := (unhide HO).frozen 4
    have e4 := (unhide HX).cell (i := 4) rfl
    have d5 := (unhide HO).cell (i := 5) rfl
    have df5 := (unhide HO).frozen 5
    have e5 := (unhide HX).cell (i := 5) rfl
    have hKf := ((((((Kept.refl (fun b => b = w.heap.size) V).setCell (p := ⟨w.heap.size, 0, none⟩) rfl (.string s)).setCell (p := ⟨w.heap.size, 1, none⟩) rfl (.int .i64 y)).setCell (p := ⟨w.heap.size, 2, none⟩) rfl (.int .i64 cl)).setCell (p := ⟨w.heap.size, 3, none⟩) rfl (.bool co)).setCell (p := ⟨w.heap.size, 4, none⟩) rfl (.int .i64 fr)).setCell (p := ⟨w.heap.size, 5, none⟩) rfl (.int .i64 to)
    have HOf := hide ((((((unhide HO).set 0 (.string s) (by simp)).set 1 (.int .i64 y) (by simp)).set 2 (.int .i64 cl) (by simp)).set 3 (.bool co) (by simp)).set 4 (.int .i64 fr) (by simp) |>.set 5 (.int .i64 to) (by simp))
    have HCf := hide ((unhide HC).kept hKf (fun b h => by omega))
    have HKf := hide ((unhide HK).trans (hKf.mono (fun b _ h => Or.inr (by omega))))
    clear hKf
    have k0 := (unhide HOf).cell (i := 0) rfl
    have k1 := (unhide HOf).cell (i := 1) rfl
    have k2 := (unhide HOf).cell (i := 2) rfl
    have k3 := (unhide HOf).cell (i := 3) rfl
    have k4 := (unhide HOf).cell (i := 4) rfl
    have k5 := (unhide HOf).cell (i := 5) rfl
    go_wp2
    refine bodyPost_ret (v := vBox s y cl co fr to) (by simp [results, Try.results74, go_sem, vBox, k0, k1, k2, k3, k4, k5]) rfl ⟨_, _, _, _, _, _, rfl, unhide HCf, (unhide HKf).mono (fun b hb h => h.resolve_right (by omega))⟩
  · have hA := Below.alloc1 w2 (.cells #[.int .i64 (-1), .int .i64 (9), .int .i64 (10)] 3)
    have HY : Hid (OwnV (w2.alloc (.cells #[.int .i64 (-1), .int .i64 (9), .int .i64 (10)] 3)) w2.heap.size (ints [-1, 9, 10])) := ownV_alloc w2 #[.int .i64 (-1), .int .i64 (9), .int .i64 (10)] 3
    replace HC := hide ((unhide HC).below hA)
    replace HO := hide ((unhide HO).step hA)
    replace HX := hide ((unhide HX).step hA)
    replace HK := hide ((unhide HK).trans (kept_of_below hA))
    clear hA
    go_wp2_with fail
    refine (unhide HP _ (unhide HC) _ 3 _ (unhide HY) (by omega) rfl (by omega) (by omega)).mono ?_
    rintro e w3 ⟨y, rfl, hc, hk⟩
    clear HY
    replace HC := hide hc
    replace HO := hide ((unhide HO).kept hk (by omega))
    replace HX := hide ((unhide HX).kept hk (by omega))
    replace HK := hide ((unhide HK).trans (hk.mono (fun _ _ h => Or.inl h)))
    clear hc hk HB HP HT
    have kc := (unhide HX).cell (i := 2) rfl
    have kf := (unhide HX).frozen 2
    have hS := (Kept.refl (fun b => b = w1.heap.size) w3).setCell (p := ⟨w1.heap.size, 2, none⟩) rfl (.int .i64 y)
    have HX2 := hide ((unhide HX).set 2 (.int .i64 y) (by simp))
    have HO2 := hide ((unhide HO).kept hS (by omega))
    have HC2 := hide ((unhide HC).kept hS (fun b h => by omega))
    have HK2 := hide ((unhide HK).setCell (p := ⟨w1.heap.size, 2, none⟩) (Or.inr (by omega)) (.int .i64 y))
    generalize hV : w3.setCell ⟨w1.heap.size, 2, none⟩ (.int .i64 y) = V at HX2 HO2 HC2 HK2
    clear hS HX HC HK HO
    simp only [List.set_cons_zero, List.set_cons_succ] at HX2
    have HX := HX2
    have HO := HO2
    have HC := HC2
    have HK := HK2
    clear HX2 HO2 HC2 HK2
    have d0 := (unhide HO).cell (i := 0) rfl
    have df0 := (unhide HO).frozen 0
    have e0 := (unhide HX).cell (i := 0) rfl
    have d1 := (unhide HO).cell (i := 1) rfl
    have df1 := (unhide HO).frozen 1
    have e1 := (unhide HX).cell (i := 1) rfl
    have d2 := (unhide HO).cell (i := 2) rfl
    have df2 := (unhide HO).frozen 2
    have e2 := (unhide HX).cell (i := 2) rfl
    have d3 := (unhide HO).cell (i := 3) rfl
    have df3 := (unhide HO).frozen 3
    have e3 := (unhide HX).cell (i := 3) rfl
    have d4 := (unhide HO).cell (i := 4) rfl
    have df4 := (unhide HO).frozen 4
    have e4 := (unhide HX).cell (i := 4) rfl
    have d5 := (unhide HO).cell (i := 5) rfl
    have df5 := (unhide HO).frozen 5
    have e5 := (unhide HX).cell (i := 5) rfl
    have hKf := ((((((Kept.refl (fun b => b = w.heap.size) V).setCell (p := ⟨w.heap.size, 0, none⟩) rfl (.string s)).setCell (p := ⟨w.heap.size, 1, none⟩) rfl (.int .i64 wt)).setCell (p := ⟨w.heap.size, 2, none⟩) rfl (.int .i64 y)).setCell (p := ⟨w.heap.size, 3, none⟩) rfl (.bool co)).setCell (p := ⟨w.heap.size, 4, none⟩) rfl (.int .i64 fr)).setCell (p := ⟨w.heap.size, 5, none⟩) rfl (.int .i64 to)
    have HOf := hide ((((((unhide HO).set 0 (.string s) (by simp)).set 1 (.int .i64 wt) (by simp)).set 2 (.int .i64 y) (by simp)).set 3 (.bool co) (by simp)).set 4 (.int .i64 fr) (by simp) |>.set 5 (.int .i64 to) (by simp))
    have HCf := hide ((unhide HC).kept hKf (fun b h => by omega))
    have HKf := hide ((unhide HK).trans (hKf.mono (fun b _ h => Or.inr (by omega))))
    clear hKf
    have k0 := (unhide HOf).cell (i := 0) rfl
    have k1 := (unhide HOf).cell (i := 1) rfl
    have k2 := (unhide HOf).cell (i := 2) rfl
    have k3 := (unhide HOf).cell (i := 3) rfl
    have k4 := (unhide HOf).cell (i := 4) rfl
    have k5 := (unhide HOf).cell (i := 5) rfl
    go_wp2
    refine bodyPost_ret (v := vBox s wt y co fr to) (by simp [results, Try.results74, go_sem, vBox, k0, k1, k2, k3, k4, k5]) rfl ⟨_, _, _, _, _, _, rfl, unhide HCf, (unhide HKf).mono (fun b hb h => h.resolve_right (by omega))⟩
  · have hA := Below.alloc1 w2 (.cells #[.int .i64 (-1), .int .i64 (18), .int .i64 (19)] 3)
    have HY : Hid (OwnV (w2.alloc (.cells #[.int .i64 (-1), .int .i64 (18), .int .i64 (19)] 3)) w2.heap.size (ints [-1, 18, 19])) := ownV_alloc w2 #[.int .i64 (-1), .int .i64 (18), .int .i64 (19)] 3
    replace HC := hide ((unhide HC).below hA)
    replace HO := hide ((unhide HO).step hA)
    replace HX := hide ((unhide HX).step hA)
    replace HK := hide ((unhide HK).trans (kept_of_below hA))
    clear hA
    go_wp2_with fail
    refine (unhide HP _ (unhide HC) _ 3 _ (unhide HY) (by omega) rfl (by omega) (by omega)).mono ?_
    rintro e w3 ⟨y, rfl, hc, hk⟩
    clear HY
    replace HC := hide hc
    replace HO := hide ((unhide HO).kept hk (by omega))
    replace HX := hide ((unhide HX).kept hk (by omega))
    replace HK := hide ((unhide HK).trans (hk.mono (fun _ _ h => Or.inl h)))
    clear hc hk HB HP HT
    have kc := (unhide HX).cell (i := 4) rfl
    have kf := (unhide HX).frozen 4
    have hS := (Kept.refl (fun b => b = w1.heap.size) w3).setCell (p := ⟨w1.heap.size, 4, none⟩) rfl (.int .i64 y)
    have HX2 := hide ((unhide HX).set 4 (.int .i64 y) (by simp))
    have HO2 := hide ((unhide HO).kept hS (by omega))
    have HC2 := hide ((unhide HC).kept hS (fun b h => by omega))
    have HK2 := hide ((unhide HK).setCell (p := ⟨w1.heap.size, 4, none⟩) (Or.inr (by omega)) (.int .i64 y))
    generalize hV : w3.setCell ⟨w1.heap.size, 4, none⟩ (.int .i64 y) = V at HX2 HO2 HC2 HK2
    clear hS HX HC HK HO
    simp only [List.set_cons_zero, List.set_cons_succ] at HX2
    have HX := HX2
    have HO := HO2
    have HC := HC2
    have HK := HK2
    clear HX2 HO2 HC2 HK2
    have d0 := (unhide HO).cell (i := 0) rfl
    have df0 := (unhide HO).frozen 0
    have e0 := (unhide HX).cell (i := 0) rfl
    have d1 := (unhide HO).cell (i := 1) rfl
    have df1 := (unhide HO).frozen 1
    have e1 := (unhide HX).cell (i := 1) rfl
    have d2 := (unhide HO).cell (i := 2) rfl
    have df2 := (unhide HO).frozen 2
    have e2 := (unhide HX).cell (i := 2) rfl
    have d3 := (unhide HO).cell (i := 3) rfl
    have df3 := (unhide HO).frozen 3
    have e3 := (unhide HX).cell (i := 3) rfl
    have d4 := (unhide HO).cell (i := 4) rfl
    have df4 := (unhide HO).frozen 4
    have e4 := (unhide HX).cell (i := 4) rfl
    have d5 := (unhide HO).cell (i := 5) rfl
    have df5 := (unhide HO).frozen 5
    have e5 := (unhide HX).cell (i := 5) rfl
    have hKf := ((((((Kept.refl (fun b => b = w.heap.size) V).setCell (p := ⟨w.heap.size, 0, none⟩) rfl (.string s)).setCell (p := ⟨w.heap.size, 1, none⟩) rfl (.int .i64 wt)).setCell (p := ⟨w.heap.size, 2, none⟩) rfl (.int .i64 cl)).setCell (p := ⟨w.heap.size, 3, none⟩) rfl (.bool co)).setCell (p := ⟨w.heap.size, 4, none⟩) rfl (.int .i64 y)).setCell (p := ⟨w.heap.size, 5, none⟩) rfl (.int .i64 to)
    have HOf := hide ((((((unhide HO).set 0 (.string s) (by simp)).set 1 (.int .i64 wt) (by simp)).set 2 (.int .i64 cl) (by simp)).set 3 (.bool co) (by simp)).set 4 (.int .i64 y) (by simp) |>.set 5 (.int .i64 to) (by simp))
    have HCf := hide ((unhide HC).kept hKf (fun b h => by omega))
    have HKf := hide ((unhide HK).trans (hKf.mono (fun b _ h => Or.inr (by omega))))
    clear hKf
    have k0 := (unhide HOf).cell (i := 0) rfl
    have k1 := (unhide HOf).cell (i := 1) rfl
    have k2 := (unhide HOf).cell (i := 2) rfl
    have k3 := (unhide HOf).cell (i := 3) rfl
    have k4 := (unhide HOf).cell (i := 4) rfl
    have k5 := (unhide HOf).cell (i := 5) rfl
    go_wp2
    refine bodyPost_ret (v := vBox s wt cl co y to) (by simp [results, Try.results74, go_sem, vBox, k0, k1, k2, k3, k4, k5]) rfl ⟨_, _, _, _, _, _, rfl, unhide HCf, (unhide HKf).mono (fun b hb h => h.resolve_right (by omega))⟩
  · have hA := Below.alloc1 w2 (.cells #[.int .i64 (0), .int .i64 (19), .int .i64 (20)] 3)
    have HY : Hid (OwnV (w2.alloc (.cells #[.int .i64 (0), .int .i64 (19), .int .i64 (20)] 3)) w2.heap.size (ints [0, 19, 20])) := ownV_alloc w2 #[.int .i64 (0), .int .i64 (19), .int .i64 (20)] 3
    replace HC := hide ((unhide HC).below hA)
    replace HO := hide ((unhide HO).step hA)
    replace HX := hide ((unhide HX).step hA)
    replace HK := hide ((unhide HK).trans (kept_of_below hA))
    clear hA
    go_wp2_with fail
    refine (unhide HP _ (unhide HC) _ 3 _ (unhide HY) (by omega) rfl (by omega) (by omega)).mono ?_
    rintro e w3 ⟨y, rfl, hc, hk⟩
    clear HY
    replace HC := hide hc
    replace HO := hide ((unhide HO).kept hk (by omega))
    replace HX := hide ((unhide HX).kept hk (by omega))
    replace HK := hide ((unhide HK).trans (hk.mono (fun _ _ h => Or.inl h)))
    clear hc hk HB HP HT
    have kc := (unhide HX).cell (i := 5) rfl
    have kf := (unhide HX).frozen 5
    have hS := (Kept.refl (fun b => b = w1.heap.size) w3).setCell (p := ⟨w1.heap.size, 5, none⟩) rfl (.int .i64 y)
    have HX2 := hide ((unhide HX).set 5 (.int .i64 y) (by simp))
    have HO2 := hide ((unhide HO).kept hS (by omega))
    have HC2 := hide ((unhide HC).kept hS (fun b h => by omega))
    have HK2 := hide ((unhide HK).setCell (p := ⟨w1.heap.size, 5, none⟩) (Or.inr (by omega)) (.int .i64 y))
    generalize hV : w3.setCell ⟨w1.heap.size, 5, none⟩ (.int .i64 y) = V at HX2 HO2 HC2 HK2
    clear hS HX HC HK HO
    simp only [List.set_cons_zero, List.set_cons_succ] at HX2
    have HX := HX2
    have HO := HO2
    have HC := HC2
    have HK := HK2
    clear HX2 HO2 HC2 HK2
    have d0 := (unhide HO).cell (i := 0) rfl
    have df0 := (unhide HO).frozen 0
    have e0 := (unhide HX).cell (i := 0) rfl
    have d1 := (unhide HO).cell (i := 1) rfl
    have df1 := (unhide HO).frozen 1
    have e1 := (unhide HX).cell (i := 1) rfl
    have d2 := (unhide HO).cell (i := 2) rfl
    have df2 := (unhide HO).frozen 2
    have e2 := (unhide HX).cell (i := 2) rfl
    have d3 := (unhide HO).cell (i := 3) rfl
    have df3 := (unhide HO).frozen 3
    have e3 := (unhide HX).cell (i := 3) rfl
    have d4 := (unhide HO).cell (i := 4) rfl
    have df4 := (unhide HO).frozen 4
    have e4 := (unhide HX).cell (i := 4) rfl
    have d5 := (unhide HO).cell (i := 5) rfl
    have df5 := (unhide HO).frozen 5
    have e5 := (unhide HX).cell (i := 5) rfl
    have hKf := ((((((Kept.refl (fun b => b = w.heap.size) V).setCell (p := ⟨w.heap.size, 0, none⟩) rfl (.string s)).setCell (p := ⟨w.heap.size, 1, none⟩) rfl (.int .i64 wt)).setCell (p := ⟨w.heap.size, 2, none⟩) rfl (.int .i64 cl)).setCell (p := ⟨w.heap.size, 3, none⟩) rfl (.bool co)).setCell (p := ⟨w.heap.size, 4, none⟩) rfl (.int .i64 fr)).setCell (p := ⟨w.heap.size, 5, none⟩) rfl (.int .i64 y)
    have HOf := hide ((((((unhide HO).set 0 (.string s) (by simp)).set 1 (.int .i64 wt) (by simp)).set 2 (.int .i64 cl) (by simp)).set 3 (.bool co) (by simp)).set 4 (.int .i64 fr) (by simp) |>.set 5 (.int .i64 y) (by simp))
    have HCf := hide ((unhide HC).kept hKf (fun b h => by omega))
    have HKf := hide ((unhide HK).trans (hKf.mono (fun b _ h => Or.inr (by omega))))
    clear hKf
    have k0 := (unhide HOf).cell (i := 0) rfl
    have k1 := (unhide HOf).cell (i := 1) rfl
    have k2 := (unhide HOf).cell (i := 2) rfl
    have k3 := (unhide HOf).cell (i := 3) rfl
    have k4 := (unhide HOf).cell (i := 4) rfl
    have k5 := (unhide HOf).cell (i := 5) rfl
    go_wp2
    refine bodyPost_ret (v := vBox s wt cl co fr y) (by simp [results, Try.results74, go_sem, vBox, k0, k1, k2, k3, k4, k5]) rfl ⟨_, _, _, _, _, _, rfl, unhide HCf, (unhide HKf).mono (fun b hb h => h.resolve_right (by omega))⟩
  · have t0 : (x2 == 0) = false := by simp; omega
    have t1 : (x2 == 1) = false := by simp; omega
    have t2 : (x2 == 2) = false := by simp; omega
    have t3 : (x2 == 3) = false := by simp; omega
    have t4 : (x2 == 4) = false := by simp; omega
    obtain ⟨V, eV⟩ : ∃ V, V = w2 := ⟨_, rfl⟩
    rw [← eV] at HC HK HO HX ⊢
    clear eV
    have d0 := (unhide HO).cell (i := 0) rfl
    have df0 := (unhide HO).frozen 0
    have e0 := (unhide HX).cell (i := 0) rfl
    have d1 := (unhide HO).cell (i := 1) rfl
    have df1 := (unhide HO).frozen 1
    have e1 := (unhide HX).cell (i := 1) rfl
    have d2 := (unhide HO).cell (i := 2) rfl
    have df2 := (unhide HO).frozen 2
    have e2 := (unhide HX).cell (i := 2) rfl
    have d3 := (unhide HO).cell (i := 3) rfl
    have df3 := (unhide HO).frozen 3
    have e3 := (unhide HX).cell (i := 3) rfl
    have d4 := (unhide HO).cell (i := 4) rfl
    have df4 := (unhide HO).frozen 4
    have e4 := (unhide HX).cell (i := 4) rfl
    have d5 := (unhide HO).cell (i := 5) rfl
    have df5 := (unhide HO).frozen 5
    have e5 := (unhide HX).cell (i := 5) rfl
    have hKf := ((((((Kept.refl (fun b => b = w.heap.size) V).setCell (p := ⟨w.heap.size, 0, none⟩) rfl (.string s)).setCell (p := ⟨w.heap.size, 1, none⟩) rfl (.int .i64 wt)).setCell (p := ⟨w.heap.size, 2, none⟩) rfl (.int .i64 cl)).setCell (p := ⟨w.heap.size, 3, none⟩) rfl (.bool co)).setCell (p := ⟨w.heap.size, 4, none⟩) rfl (.int .i64 fr)).setCell (p := ⟨w.heap.size, 5, none⟩) rfl (.int .i64 to)
    have HOf := hide ((((((unhide HO).set 0 (.string s) (by simp)).set 1 (.int .i64 wt) (by simp)).set 2 (.int .i64 cl) (by simp)).set 3 (.bool co) (by simp)).set 4 (.int .i64 fr) (by simp) |>.set 5 (.int .i64 to) (by simp))
    have HCf := hide ((unhide HC).kept hKf (fun b h => by omega))
    have HKf := hide ((unhide HK).trans (hKf.mono (fun b _ h => Or.inr (by omega))))
    clear hKf
    have k0 := (unhide HOf).cell (i := 0) rfl
    have k1 := (unhide HOf).cell (i := 1) rfl
    have k2 := (unhide HOf).cell (i := 2) rfl
    have k3 := (unhide HOf).cell (i := 3) rfl
    have k4 := (unhide HOf).cell (i := 4) rfl
    have k5 := (unhide HOf).cell (i := 5) rfl
    go_wp2
    refine bodyPost_ret (v := vBox s wt cl co fr to) (by simp [results, Try.results74, go_sem, vBox, k0, k1, k2, k3, k4, k5]) rfl ⟨_, _, _, _, _, _, rfl, unhide HCf, (unhide HKf).mono (fun b hb h => h.resolve_right (by omega))⟩

end

section
open Go.RowKit

theorem foldl_mem {α β : Type} {f : α → β → α} {p : α → Prop} : ∀ (S : List β) (a : α), (∀ a s, s ∈ S → p a → p (f a s)) → p a → p (S.foldl f a)
  | [], _, _, h => h
  | s :: S, a, hf, h => foldl_mem S (f a s) (fun a t ht => hf a t (List.mem_cons_of_mem s ht)) (hf a s List.mem_cons_self h)
theorem foldl_reach {α β : Type} {f : α → β → α} {p : α → Prop} {s0 : β} (hs : ∀ a s, p a → p (f a s)) (h0 : ∀ a, p (f a s0)) : ∀ (S : List β) (a : α), s0 ∈ S → p (S.foldl f a)
  | s :: S, a, hm => by
    rcases List.mem_cons.1 hm with e | hm
    · subst e
      exact foldl_inv hs S _ (h0 a)
    · exact foldl_reach hs h0 S (f a s) hm

theorem seek_mono (H : List HatchT) (S : List I3) : ∀ (bs : List BoxT) (so : List StowT) (acc : AccT), acc.2 = true → (seek H S bs so acc).2 = true ∧ over (seek H S bs so acc).1 ≤ over acc.1
  | [], so, acc, h => by
    rw [seek]
    split
    next hc =>
      refine ⟨rfl, ?_⟩
      rcases hc.2 with e | e
      · rw [h] at e; cases e
      · exact Nat.le_of_lt e
    next => exact ⟨h, Nat.le_refl _⟩
  | b :: bs, so, acc, h => by
    rw [seek]
    refine foldl_inv (p := fun a : AccT => a.2 = true ∧ over a.1 ≤ over acc.1) (fun a s ha => ?_) S acc ⟨h, Nat.le_refl _⟩
    split
    next => exact ha
    next =>
      have := seek_mono H S bs (so ++ [mkS b s]) a ha.1
      exact ⟨this.1, Nat.le_trans this.2 ha.2⟩

theorem mkS_eta (e : StowT) : mkS (sbx e) (ssp e) = e := rfl

theorem seek_min (H : List HatchT) (S : List I3) : ∀ (bs : List BoxT) (so : List StowT) (acc : AccT) (ext : List StowT), ext.length = bs.length → (∀ i, i < bs.length → sbx (stO ext i) = bs.getD i default) → (∀ i, i < ext.length → ssp (stO ext i) ∈ S ∧ hasB (so ++ ext.take i) (ssp (stO ext i)) = false) → wellB H (so ++ ext) = true →
    (seek H S bs so acc).2 = true ∧ over (seek H S bs so acc).1 ≤ over (so ++ ext)
  | [], so, acc, ext, hl, _, _, hw => by
    have he : ext = [] := List.length_eq_zero_iff.1 hl
    subst he
    rw [List.append_nil] at hw ⊢
    rw [seek]
    split
    next => exact ⟨rfl, Nat.le_refl _⟩
    next hc =>
      have h2 : ¬ (acc.2 = false ∨ over so < over acc.1) := fun h => hc ⟨hw, h⟩
      refine ⟨?_, ?_⟩
      · cases h : acc.2 with
        | true => rfl
        | false => exact absurd (Or.inl h) h2
      · exact Nat.le_of_not_lt fun h => h2 (Or.inr h)
  | b :: bs, so, acc, [], hl, _, _, _ => by simp at hl
  | b :: bs, so, acc, e :: ext, hl, hb, hs, hw => by
    rw [seek]
    have h0 := hs 0 (by simp)
    have hb0 : sbx e = b := hb 0 (by simp)
    have hmk : mkS b (ssp e) = e := by rw [← hb0]; exact mkS_eta e
    have hh : hasB so (ssp e) = false := by
      have := h0.2
      simpa [stO] using this
    have happ : (so ++ [e]) ++ ext = so ++ e :: ext := by simp
    refine foldl_reach (s0 := ssp e) (p := fun a : AccT => a.2 = true ∧ over a.1 ≤ over (so ++ e :: ext)) (fun a s ha => ?_) (fun a => ?_) S acc h0.1
    · split
      next => exact ha
      next =>
        have := seek_mono H S bs (so ++ [mkS b s]) a ha.1
        exact ⟨this.1, Nat.le_trans this.2 ha.2⟩
    · rw [if_neg (by rw [hh]; decide), hmk, ← happ]
      refine seek_min H S bs (so ++ [e]) a ext (by simpa using hl) (fun i hi => ?_) (fun i hi => ?_) (by rw [happ]; exact hw)
      · have := hb (i + 1) (by simp; omega)
        simpa [stO] using this
      · have := hs (i + 1) (by simp; omega)
        refine ⟨by simpa [stO] using this.1, ?_⟩
        have h2 := this.2
        rw [List.take_succ_cons, ← List.singleton_append, ← List.append_assoc] at h2
        simpa [stO] using h2

/-- A way that has the boxes in their order and stands well. -/
def GoodW (H : List HatchT) (BX : List BoxT) (A : List StowT) : Prop := A.length = BX.length ∧ (∀ i, i < BX.length → sbx (stO A i) = BX.getD i default) ∧ wellB H A = true

theorem seek_good (H : List HatchT) (S : List I3) (BX : List BoxT) : ∀ (bs : List BoxT) (so : List StowT) (acc : AccT), so.length + bs.length = BX.length → (∀ i, i < so.length → sbx (stO so i) = BX.getD i default) → (∀ i, i < bs.length → BX.getD (so.length + i) default = bs.getD i default) → (acc.2 = true → GoodW H BX acc.1) → (seek H S bs so acc).2 = true → GoodW H BX (seek H S bs so acc).1
  | [], so, acc, hl, hs, _, ha => by
    rw [seek]
    split
    next hc => exact fun _ => ⟨by simpa using hl, fun i hi => hs i (by simp at hl; omega), hc.1⟩
    next => exact ha
  | b :: bs, so, acc, hl, hs, hb, ha => by
    rw [seek]
    refine foldl_inv (p := fun a : AccT => a.2 = true → GoodW H BX a.1) (fun a s hp => ?_) S acc ha
    split
    next => exact hp
    next =>
      have hln : (so ++ [mkS b s]).length = so.length + 1 := by simp
      refine seek_good H S BX bs (so ++ [mkS b s]) a (by rw [hln]; simp at hl; omega) (fun i hi => ?_) (fun i hi => ?_) hp
      · by_cases hi2 : i < so.length
        · have : stO (so ++ [mkS b s]) i = stO so i := stO_append hi2
          rw [this]
          exact hs i hi2
        · have hie : i = so.length := by omega
          subst hie
          have h0 := hb 0 (by simp)
          have : stO (so ++ [mkS b s]) so.length = mkS b s := by unfold stO; simp
          rw [this]
          exact h0.symm
      · rw [hln, show so.length + 1 + i = so.length + (i + 1) by omega, hb (i + 1) (by simp; omega)]
        rfl

theorem well_parts {H : List HatchT} {A : List StowT} (h : wellB H A = true) : hatB H = true ∧ A.length ≤ 40 ∧ ∀ i, i < A.length → f2 A i = false ∧ f3 H A i = false := by
  simp only [wellB, decide_eq_true_eq] at h
  rcases stowC_cases H A with ⟨_, e⟩ | ⟨_, _, c, i, h1, _, _, _, _, _, e⟩ | ⟨hh, hl, hall, _⟩
  · rw [e] at h; cases h
  · rw [e] at h; dsimp only at h; omega
  · exact ⟨hh, hl, fun i hi => ⟨hall 2 (by omega) (by omega) i hi, hall 3 (by omega) (by omega) i hi⟩⟩

theorem mem_spT (b r : Int) : ∀ (T t : Nat), t < T → (b, r, (t : Int)) ∈ spT b r T
  | T + 1, t, h => by
    rw [spT]
    by_cases e : t = T
    · subst e; exact List.mem_append_right _ List.mem_cons_self
    · exact List.mem_append_left _ (mem_spT b r T t (by omega))
theorem mem_spR (b : Int) (T : Nat) {t : Nat} (ht : t < T) : ∀ (R r : Nat), r < R → (b, (r : Int), (t : Int)) ∈ spR b T R
  | R + 1, r, h => by
    rw [spR]
    by_cases e : r = R
    · subst e; exact List.mem_append_right _ (mem_spT b (r : Int) T t ht)
    · exact List.mem_append_left _ (mem_spR b T ht R r (by omega))
theorem mem_spB (H : List HatchT) {b : Nat} {s : I3} (hs : s ∈ spR (b : Int) (H.getD b default).2.1.toNat (H.getD b default).1.toNat) : ∀ (n : Nat), b < n → s ∈ spB H n
  | n + 1, h => by
    rw [spB]
    by_cases e : b = n
    · subst e; exact List.mem_append_right _ hs
    · exact List.mem_append_left _ (mem_spB H hs n (by omega))
theorem spot_mem {H : List HatchT} {s : I3} (h : spIn H s = true) : s ∈ spots H := by
  obtain ⟨x, y, z⟩ := s
  simp only [spIn, Bool.and_eq_true] at h
  obtain ⟨⟨h1, h2⟩, h3⟩ := h
  have h1 := inB_true h1
  have h2 := inB_true h2
  have h3 := inB_true h3
  obtain ⟨b, rfl⟩ : ∃ n : Nat, x = (n : Int) := ⟨x.toNat, by omega⟩
  obtain ⟨r, rfl⟩ : ∃ n : Nat, y = (n : Int) := ⟨y.toNat, by omega⟩
  obtain ⟨t, rfl⟩ : ∃ n : Nat, z = (n : Int) := ⟨z.toNat, by omega⟩
  unfold hO at h2 h3
  rw [Int.toNat_natCast] at h2 h3
  exact mem_spB H (mem_spR (b : Int) _ (by omega) _ r (by omega)) H.length (by omega)

/-- What Fewest finds. -/
theorem few_found {H : List HatchT} {BX : List BoxT} (h : (fewV H BX).2 = true) : GoodW H BX (fewV H BX).1 ∧ ∀ O : List StowT, O.length = BX.length → (∀ i, i < BX.length → sbx (stO O i) = BX.getD i default) → wellB H O = true → over (fewV H BX).1 ≤ over O := by
  unfold fewV at h ⊢
  split at h
  next hc =>
    rw [if_pos hc]
    refine ⟨seek_good H (spots H) BX BX [] ([], false) (by simp) (fun i hi => by simp at hi) (fun i _ => by simp) (fun h => by cases h) h, fun O hl hb hw => ?_⟩
    obtain ⟨_, _, hp⟩ := well_parts hw
    refine (seek_min H (spots H) BX [] ([], false) O hl hb (fun i hi => ?_) hw).2
    obtain ⟨h2, h3⟩ := hp i hi
    refine ⟨spot_mem ?_, ?_⟩
    · simpa [f3] using h3
    · rw [List.nil_append]
      simp only [hasB, decide_eq_false_iff_not]
      rintro ⟨k, hk, e⟩
      rw [List.length_take] at hk
      have hki : k < i := by omega
      simp only [f2, decide_eq_false_iff_not] at h2
      refine h2 ⟨k, hki, Or.inr ?_⟩
      have : stO (O.take i) k = stO O k := by
        unfold stO
        rw [List.getD_eq_getElem?_getD, List.getD_eq_getElem?_getD, List.getElem?_take, if_pos hki]
      rw [this] at e
      exact e
  next => cases h

end

section
open Go.RowKit

theorem recCells_put {α : Type} [Inhabited α] {n : Nat} {enc : α → Nat → Value} {L : List α} {i j : Nat} {x : α} (hi : i < L.length) (hj : j < n) (h1 : ∀ q, q < n → q ≠ j → enc x q = enc (L.getD i default) q) : (recCells n enc L).set (i * n + j) (enc x j) = recCells n enc (L.set i x) := by
  apply List.ext_getElem
  · simp [recCells]
  · intro q h2 h3
    rw [List.getElem_set]
    have hpl := rec_place (i := i) hj
    have hq : q < L.length * n := by simpa [recCells] using h3
    have hn : 0 < n := by omega
    have hd : q / n < L.length := by rw [Nat.div_lt_iff_lt_mul hn]; exact hq
    simp only [recCells, List.getElem_map, List.getElem_range]
    split
    next e =>
      subst e
      rw [hpl.1, hpl.2, List.getD_eq_getElem?_getD, List.getElem?_set_self hi]
      rfl
    next e =>
      by_cases e2 : q / n = i
      · have e3 : q % n ≠ j := fun e4 => e (by
          have := Nat.div_add_mod q n
          rw [e2, e4] at this
          rw [Nat.mul_comm i n]
          exact this)
        rw [e2, List.getD_eq_getElem?_getD (l := L.set i x), List.getElem?_set_self hi]
        exact (h1 (q % n) (Nat.mod_lt _ hn) e3).symm
      · rw [List.getD_eq_getElem?_getD (l := L.set i x), List.getElem?_set_ne (fun e4 => e2 e4.symm), ← List.getD_eq_getElem?_getD]

/-- Stow i stands at the spot s. -/
def putSp (O : List StowT) (i : Nat) (s : I3) : List StowT := O.set i (mkS (sbx (stO O i)) s)
theorem putSp_len (O : List StowT) (i : Nat) (s : I3) : (putSp O i s).length = O.length := by simp [putSp]
theorem putSp_box {O : List StowT} {i : Nat} (s : I3) (hi : i < O.length) (k : Nat) : sbx (stO (putSp O i s) k) = sbx (stO O k) := by
  by_cases e : k = i
  · subst e
    unfold putSp
    have : stO (O.set k (mkS (sbx (stO O k)) s)) k = mkS (sbx (stO O k)) s := by
      unfold stO
      rw [List.getD_eq_getElem?_getD, List.getElem?_set_self hi]
      rfl
    rw [this]
    rfl
  · unfold putSp
    have : stO (O.set i (mkS (sbx (stO O i)) s)) k = stO O k := by
      unfold stO
      rw [List.getD_eq_getElem?_getD, List.getElem?_set_ne (fun e2 => e e2.symm), ← List.getD_eq_getElem?_getD]
    rw [this]
theorem nine {P : Nat → Prop} (h0 : P 0) (h1 : P 1) (h2 : P 2) (h3 : P 3) (h4 : P 4) (h5 : P 5) (h6 : P 6) (h7 : P 7) (h8 : P 8) : ∀ q, q < 9 → P q := fun q hq => by
  have : q = 0 ∨ q = 1 ∨ q = 2 ∨ q = 3 ∨ q = 4 ∨ q = 5 ∨ q = 6 ∨ q = 7 ∨ q = 8 := by omega
  rcases this with e | e | e | e | e | e | e | e | e <;> subst e <;> assumption
theorem recCells_spot {O : List StowT} {i : Nat} (hi : i < O.length) (x y z : Int) :
    (((recCells 9 eStow O).set (i * 9 + 6) (.int .i64 x)).set (i * 9 + 7) (.int .i64 y)).set (i * 9 + 8) (.int .i64 z) = recCells 9 eStow (putSp O i (x, y, z)) := by
  obtain ⟨a0, a1, a2, a3, a4, a5, a6, a7, a8, e⟩ : ∃ a0 a1 a2 a3 a4 a5 a6 a7 a8, O.getD i default = (a0, a1, a2, a3, a4, a5, a6, a7, a8) := ⟨_, _, _, _, _, _, _, _, _, rfl⟩
  have g1 : (O.set i (a0, a1, a2, a3, a4, a5, x, a7, a8)).getD i default = (a0, a1, a2, a3, a4, a5, x, a7, a8) := by rw [List.getD_eq_getElem?_getD, List.getElem?_set_self hi]; rfl
  have g2 : (O.set i (a0, a1, a2, a3, a4, a5, x, y, a8)).getD i default = (a0, a1, a2, a3, a4, a5, x, y, a8) := by rw [List.getD_eq_getElem?_getD, List.getElem?_set_self hi]; rfl
  have s1 : (recCells 9 eStow O).set (i * 9 + 6) (.int .i64 x) = recCells 9 eStow (O.set i (a0, a1, a2, a3, a4, a5, x, a7, a8)) :=
    recCells_put (x := (a0, a1, a2, a3, a4, a5, x, a7, a8)) (j := 6) hi (by omega) (by rw [e]; exact nine (fun _ => rfl) (fun _ => rfl) (fun _ => rfl) (fun _ => rfl) (fun _ => rfl) (fun _ => rfl) (fun h => absurd rfl h) (fun _ => rfl) (fun _ => rfl))
  have s2 : (recCells 9 eStow (O.set i (a0, a1, a2, a3, a4, a5, x, a7, a8))).set (i * 9 + 7) (.int .i64 y) = recCells 9 eStow (O.set i (a0, a1, a2, a3, a4, a5, x, y, a8)) := by
    have h := recCells_put (enc := eStow) (x := (a0, a1, a2, a3, a4, a5, x, y, a8)) (n := 9) (j := 7) (L := O.set i (a0, a1, a2, a3, a4, a5, x, a7, a8)) (i := i) (by rw [List.length_set]; exact hi) (by omega) (by rw [g1]; exact nine (fun _ => rfl) (fun _ => rfl) (fun _ => rfl) (fun _ => rfl) (fun _ => rfl) (fun _ => rfl) (fun _ => rfl) (fun h => absurd rfl h) (fun _ => rfl))
    rw [List.set_set] at h
    exact h
  have s3 : (recCells 9 eStow (O.set i (a0, a1, a2, a3, a4, a5, x, y, a8))).set (i * 9 + 8) (.int .i64 z) = recCells 9 eStow (O.set i (a0, a1, a2, a3, a4, a5, x, y, z)) := by
    have h := recCells_put (enc := eStow) (x := (a0, a1, a2, a3, a4, a5, x, y, z)) (n := 9) (j := 8) (L := O.set i (a0, a1, a2, a3, a4, a5, x, y, a8)) (i := i) (by rw [List.length_set]; exact hi) (by omega) (by rw [g2]; exact nine (fun _ => rfl) (fun _ => rfl) (fun _ => rfl) (fun _ => rfl) (fun _ => rfl) (fun _ => rfl) (fun _ => rfl) (fun _ => rfl) (fun h => absurd rfl h))
    rw [List.set_set] at h
    exact h
  rw [s1, s2, s3]
  unfold putSp stO
  rw [e]
  rfl
theorem ownV_spot {w : World} {g : Nat} {O : List StowT} (h : OwnV w g (recCells 9 eStow O)) {i : Nat} (hi : i < O.length) (x y z : Int) :
    OwnV (((w.setCell ⟨g, i * 9 + 6, none⟩ (.int .i64 x)).setCell ⟨g, i * 9 + 7, none⟩ (.int .i64 y)).setCell ⟨g, i * 9 + 8, none⟩ (.int .i64 z)) g (recCells 9 eStow (putSp O i (x, y, z))) := by
  have hl : (recCells 9 eStow O).length = O.length * 9 := recCells_length
  rw [← recCells_spot hi]
  exact ((h.set (i * 9 + 6) (.int .i64 x) (by omega)).set (i * 9 + 7) (.int .i64 y) (by rw [List.length_set]; omega)).set (i * 9 + 8) (.int .i64 z) (by rw [List.length_set, List.length_set]; omega)

end

section
open Go.RowKit

theorem tyHatch : RecTy 32 108 4 eHatch := recTy_mk Try.underlying32 Try.infoHatch rfl (by decide) (by decide) (fun x j hj => by
  have : j = 0 ∨ j = 1 ∨ j = 2 ∨ j = 3 := by omega
  rcases this with e | e | e | e <;> subst e <;> rfl)
theorem recH_cons (x : HatchT) (t : List HatchT) : recCells 4 eHatch (x :: t) = .int .i64 x.1 :: .int .i64 x.2.1 :: .int .i64 x.2.2.1 :: .int .i64 x.2.2.2 :: recCells 4 eHatch t := by
  have h := recCells_append 4 (by decide) eHatch [x] t
  rw [recCells_one] at h
  exact h
theorem ints_hatch : ∀ (N : Nat) (xs : List Int), xs.length = N * 4 → ∃ L : List HatchT, L.length = N ∧ recCells 4 eHatch L = ints xs
  | 0, xs, h => by
    have : xs = [] := List.length_eq_zero_iff.1 (by omega)
    subst this
    exact ⟨[], rfl, rfl⟩
  | N + 1, a :: b :: c :: d :: xs, h => by
    obtain ⟨L, h1, h2⟩ := ints_hatch N xs (by simp at h; omega)
    refine ⟨(a, b, c, d) :: L, by rw [List.length_cons, h1], ?_⟩
    rw [recH_cons, h2]
    rfl
  | N + 1, [], h => by simp at h
  | N + 1, [_], h => by simp at h; omega
  | N + 1, [_, _], h => by simp at h; omega
  | N + 1, [_, _, _], h => by simp at h; omega
theorem l1PickIntM_any (cb n : Nat) (v : Value) (g m : Nat) (xs : List Int) (w : World) (h : Cur w cb v n) (hn : n ≤ 1048576) (hx : OwnV w g (ints xs)) (hg : g ≠ cb) (hm : xs.length = m) (hm0 : 1 ≤ m) (hm1 : m ≤ 256) :
    Calls Try.prog 60 #[.pointer (some ⟨cb, 0, none⟩), .slice (some ⟨g, 0, none⟩) m m] w fun e w' => ∃ x, e = .returned (.int .i64 x) ∧ x ∈ xs ∧ Cur w' cb v n ∧ Kept (fun b => b = cb) w w' := by
  have HB := hide (l1BelowV_any cb n v m w h hn (by omega) (by omega))
  have HX := hide hx
  have HM := hide hm
  clear h hx hm
  go_enter Try.func60, Try.ntmps60
  go_wp2_with fail
  refine (unhide HB).mono ?_
  rintro e w1 ⟨x, rfl, hx0, hx1, hc, hk⟩
  have HC := hide hc
  have HK := hide hk
  obtain ⟨j, rfl⟩ : ∃ j : Nat, x = (j : Int) := ⟨x.toNat, by omega⟩
  have hjl : j < xs.length := by rw [unhide HM]; omega
  have cj := ((unhide HX).kept hk hg).cell (ints_get xs (i := j) hjl)
  have hmem : xs.getD j 0 ∈ xs := by rw [List.getD_eq_getElem?_getD, List.getElem?_eq_getElem hjl]; exact List.getElem_mem hjl
  generalize xs.getD j 0 = y at cj hmem
  have HMEM := hide hmem
  clear hc hk hjl hmem
  go_wp2
  go_ret
  exact ⟨_, rfl, unhide HMEM, unhide HC, unhide HK⟩
/-- Bays that are drawn. -/
def BaysAns (cb n : Nat) (v : Value) (w : World) (e : Ending) (w' : World) : Prop := ∃ ao m cap L, e = .returned (.slice ao m cap) ∧ m ≤ 7 ∧ OwnR 4 eHatch w.heap.size w' (.slice ao m cap) L ∧ Cur w' cb v n ∧ Kept (fun b => b = cb) w w'
theorem bays_mk {cb n : Nat} {v : Value} {w w' : World} {e : Ending} {ao : Option Addr} {m cap : Nat} {L : List HatchT} (h1 : e = .returned (.slice ao m cap)) (h2 : m ≤ 7) (h3 : OwnR 4 eHatch w.heap.size w' (.slice ao m cap) L) (h4 : Cur w' cb v n) (h5 : Kept (fun b => b = cb) w w') : BaysAns cb n v w e w' := ⟨ao, m, cap, L, h1, h2, h3, h4, h5⟩
theorem bays_out {cb n : Nat} {v : Value} {w w' : World} {e : Ending} (h : BaysAns cb n v w e w') : ∃ ao m cap L, e = .returned (.slice ao m cap) ∧ m ≤ 7 ∧ OwnR 4 eHatch w.heap.size w' (.slice ao m cap) L ∧ Cur w' cb v n ∧ Kept (fun b => b = cb) w w' := h
theorem four_zero : ∀ k : Nat, k < 4 → (#[Value.int .i64 0, .int .i64 0, .int .i64 0, .int .i64 0] : Array Value)[k]! = .int .i64 0 := fun k hk => by
  have : k = 0 ∨ k = 1 ∨ k = 2 ∨ k = 3 := by omega
  rcases this with e | e | e | e <;> subst e <;> rfl
theorem ownIntsSet {w : World} {g : Nat} {xs : List Int} (h : OwnV w g (ints xs)) (j : Nat) (u : Int) (hj : j < xs.length) : OwnV (w.setCell ⟨g, j, none⟩ (.int .i64 u)) g (ints (xs.set j u)) := by
  have h' := h.set j (.int .i64 u) (by rw [ints_length]; exact hj)
  rw [ints_set] at h'
  exact h'
theorem made_hatch (n : Nat) : (madeCells (vHatch 0 0 0 0).cells n).toList = ints (List.replicate n 0) := by
  have hz : (vHatch 0 0 0 0).cells = #[.int .i64 0, .int .i64 0, .int .i64 0, .int .i64 0] := by simp [vHatch, Value.cells]
  rw [hz]
  apply List.ext_getElem
  · simp [madeCells, ints]
  · intro i h1 h2
    simp only [madeCells, ints, Array.toList_map, Array.toList_range, List.getElem_map, List.getElem_range, List.getElem_replicate]
    exact four_zero _ (Nat.mod_lt _ (by decide))
theorem RowB.at' {α : Type} [Inhabited α] {T : TypeId} {n : Nat} {enc : α → Nat → Value} {B : Nat} {w : World} {ao : Option Addr} {m cap : Nat} {L : List α} (h : RowB T n enc B w ao m cap L) (hn : 0 < n) {k : Nat} (e : ao = some ⟨k, 0, none⟩) : B ≤ k := by
  rcases h.parts hn with ⟨e2, _⟩ | ⟨g, e2, hg, _⟩
  · rw [e] at e2; cases e2
  · rw [e] at e2; simp only [Option.some.injEq, Addr.mk.injEq, and_true] at e2; omega
theorem keptRow {α : Type} [Inhabited α] {P : Nat → Prop} {T : TypeId} {n : Nat} {enc : α → Nat → Value} {w W w' : World} {ao : Option Addr} {m cap : Nat} {L : List α} (hK : Kept P w W) (h : RowB T n enc w.heap.size W ao m cap L) (hn : 0 < n) (hA : Kept (fun k => ao = some ⟨k, 0, none⟩) W w') : Kept P w w' :=
  ⟨hA.os.trans hK.os, hA.tape.trans hK.tape, hA.output.trans hK.output, Nat.le_trans hK.size hA.size, fun k hk hp => (hA.block k (Nat.lt_of_lt_of_le hk hK.size) (fun e => by have := h.at' hn e; omega)).trans (hK.block k hk hp)⟩
theorem keptSet {P : Nat → Prop} {w W : World} {g i : Nat} {u : Value} (hK : Kept P w W) (hg : w.heap.size ≤ g) : Kept P w (W.setCell ⟨g, i, none⟩ u) :=
  have k := Kept.setCell (T := fun k => k = g) (Kept.refl _ W) (p := ⟨g, i, none⟩) rfl u
  ⟨k.os.trans hK.os, k.tape.trans hK.tape, k.output.trans hK.output, Nat.le_trans hK.size k.size, fun q hq hp => (k.block q (Nat.lt_of_lt_of_le hq hK.size) (fun e => by omega)).trans (hK.block q hq hp)⟩
theorem curSet {W : World} {cb q g i : Nat} {v u : Value} (hC : Cur W cb v q) (hg : cb < g) : Cur (W.setCell ⟨g, i, none⟩ u) cb v q :=
  hC.kept (Kept.setCell (T := fun k => k = g) (Kept.refl _ W) (p := ⟨g, i, none⟩) rfl u) (fun b e => by omega)
theorem rowSet {α : Type} [Inhabited α] {T : TypeId} {n : Nat} {enc : α → Nat → Value} {B : Nat} {W : World} {ao : Option Addr} {m cap g i : Nat} {L : List α} {u : Value} (h : RowB T n enc B W ao m cap L) (hg : ao ≠ some ⟨g, 0, none⟩) : RowB T n enc B (W.setCell ⟨g, i, none⟩ u) ao m cap L :=
  h.kept (Kept.setCell (T := fun k => k = g) (Kept.refl _ W) (p := ⟨g, i, none⟩) rfl u) (fun q e _ _ e2 => hg (by rw [e]; simp [e2]))
theorem curRow {α : Type} [Inhabited α] {T : TypeId} {n cb q : Nat} {v : Value} {enc : α → Nat → Value} {B : Nat} {W w' : World} {ao : Option Addr} {m cap : Nat} {L : List α} (hC : Cur W cb v q) (h : RowB T n enc B W ao m cap L) (hn : 0 < n) (hcl : cb < B) (hA : Kept (fun k => ao = some ⟨k, 0, none⟩) W w') : Cur w' cb v q :=
  hC.kept hA (fun b e => by have := h.at' hn e; omega)

set_option maxRecDepth 10000 in
set_option maxHeartbeats 25600000 in
theorem l12DrawBays_any (cb n : Nat) (v : Value) (sm : Bool) (w : World) (h : Cur w cb v n) (hn : n ≤ 1048576) :
    Calls Try.prog 54 #[.pointer (some ⟨cb, 0, none⟩), .bool sm] w fun e w' => BaysAns cb n v w e w' := by
  have hcl := h.lt
  have QB := hide fun W (hW : Cur W cb v n) k h0 h1 => l1BelowV_any cb n v k W hW hn h0 h1
  have hA := Below.alloc1 w (.cells #[] 108)
  have HL := hide (rowB_new 108 4 eHatch w w.heap.size (Nat.le_refl _))
  have HC := hide (h.below hA)
  have HK : Hid (Kept (fun b => b = cb) w (w.alloc (.cells #[] 108))) := kept_of_below hA
  clear h hA
  obtain ⟨g0, hg0⟩ : ∃ g, g = w.heap.size := ⟨_, rfl⟩
  go_enter Try.func54, Try.ntmps54
  go_wp2_with fail
  refine (unhide QB _ (unhide HC) 3 (by omega) (by omega)).mono ?_
  rintro e w1 ⟨x, rfl, x0, x1, hC, hK⟩
  replace HL := hide ((unhide HL).kept hK (fun g _ hg _ e => by omega))
  replace HK := hide ((unhide HK).trans hK)
  replace HC := hide hC
  clear hC hK
  obtain ⟨xn, rfl⟩ : ∃ j : Nat, x = (j : Int) := ⟨x.toNat, by omega⟩
  have qx : IntKind.i64.wrap (1 + (xn : Int)) = 1 + (xn : Int) := by rw [IntKind.wrap_i64]; omega
  go_wp2
  clear hg0
  go_loopg [5, 6] (1 + xn) (fun g ov iv wr => ∃ (k m c : Nat) (ro : Option Addr) (L : List HatchT), k + m = 1 + xn ∧ g = k * 1 ∧ iv = .int .i64 k ∧ ov = .slice ro m c ∧ Hid (RowB 108 4 eHatch w.heap.size wr ro m c L) ∧ Hid (Cur wr cb v n) ∧ Hid (Kept (fun b => b = cb) w wr))
  case atStart => exact ⟨1 + xn, 0, 0, some ⟨w.heap.size, 0, none⟩, [], by omega, by omega, by go_num, rfl, unhide HL, unhide HC, unhide HK⟩
  case round =>
    clear HL HC HK
    obtain ⟨k1, m, c, ro, L, hkm, rfl, rfl, rfl, HL, HC, HK⟩ := hrel
    by_cases hk0 : 0 < k1
    · obtain ⟨k, rfl⟩ : ∃ k, k1 = k + 1 := ⟨k1 - 1, by omega⟩
      have hki : (0 : Int) < (k : Int) + 1 := by omega
      have hki2 : (0 : Int) < ((k + 1 : Nat) : Int) := by omega
      go_wp2_with fail
      refine (unhide QB _ (unhide HC) 3 (by omega) (by omega)).mono ?_
      rintro e W1 ⟨xa, rfl, xa0, xa1, hC, hK⟩
      replace HL := hide ((unhide HL).kept hK (fun g _ hg _ e => by omega))
      replace HK := hide ((unhide HK).trans hK)
      replace HC := hide hC
      clear hC hK
      have qa : IntKind.i64.wrap (1 + xa) = 1 + xa := by rw [IntKind.wrap_i64]; omega
      go_wp2_with fail
      refine (unhide QB _ (unhide HC) 3 (by omega) (by omega)).mono ?_
      rintro e W2 ⟨xb, rfl, xb0, xb1, hC, hK⟩
      replace HL := hide ((unhide HL).kept hK (fun g _ hg _ e => by omega))
      replace HK := hide ((unhide HK).trans hK)
      replace HC := hide hC
      clear hC hK
      have qb : IntKind.i64.wrap (1 + xb) = 1 + xb := by rw [IntKind.wrap_i64]; omega
      go_wp2_with fail
      refine (unhide QB _ (unhide HC) 200 (by omega) (by omega)).mono ?_
      rintro e W3 ⟨xc, rfl, xc0, xc1, hC, hK⟩
      replace HL := hide ((unhide HL).kept hK (fun g _ hg _ e => by omega))
      replace HK := hide ((unhide HK).trans hK)
      replace HC := hide hC
      clear hC hK
      have qc : IntKind.i64.wrap (50 + xc) = 50 + xc := by rw [IntKind.wrap_i64]; omega
      go_wp2_with fail
      refine (unhide QB _ (unhide HC) 4 (by omega) (by omega)).mono ?_
      rintro e W4 ⟨xd, rfl, xd0, xd1, hC, hK⟩
      replace HL := hide ((unhide HL).kept hK (fun g _ hg _ e => by omega))
      replace HK := hide ((unhide HK).trans hK)
      replace HC := hide hC
      clear hC hK
      have hks4 := (unhide HK).size
      have HL0 := HL
      have hA0 := Below.alloc1 W4 (.cells #[.int .i64 (1 + xa), .int .i64 (1 + xb), .int .i64 (50 + xc), .int .i64 xd] 108)
      have HX := hide (ownV_alloc W4 #[.int .i64 (1 + xa), .int .i64 (1 + xb), .int .i64 (50 + xc), .int .i64 xd] 108)
      replace HL := hide ((unhide HL).below hA0)
      replace HK := hide ((unhide HK).trans (kept_of_below hA0))
      replace HC := hide ((unhide HC).below hA0)
      clear hA0
      obtain ⟨gb, egb⟩ : ∃ g, g = W4.heap.size := ⟨_, rfl⟩
      have hgb : w.heap.size ≤ gb := by rw [egb]; exact hks4
      have HNE : Hid (ro ≠ some ⟨gb, 0, none⟩) := fun e => by
        rcases (unhide HL0).parts (by decide) with ⟨e2, _⟩ | ⟨g, e2, _, hlt, _⟩
        · rw [e] at e2; cases e2
        · rw [e] at e2; simp only [Option.some.injEq, Addr.mk.injEq, and_true] at e2; omega
      clear HL0
      rw [← egb] at HX
      cases sm with
      | false =>
        have hG := ownV_alloc (W4.alloc (.cells #[.int .i64 (1 + xa), .int .i64 (1 + xb), .int .i64 (50 + xc), .int .i64 xd] 108)) #[.int .i64 (1 + xa), .int .i64 (1 + xb), .int .i64 (50 + xc), .int .i64 (xd)] 108
        simp only [World.size_alloc] at hG
        have HG := hide hG
        clear hG
        have hA := Below.alloc1 (W4.alloc (.cells #[.int .i64 (1 + xa), .int .i64 (1 + xb), .int .i64 (50 + xc), .int .i64 xd] 108)) (.cells #[.int .i64 (1 + xa), .int .i64 (1 + xb), .int .i64 (50 + xc), .int .i64 (xd)] 108)
        have HL1 := hide ((unhide HL).below hA)
        have HK1 := hide ((unhide HK).trans (kept_of_below hA))
        have HC1 := hide ((unhide HC).below hA)
        have hws := (unhide HK1).size
        have y0 := (unhide HX).cell (i := 0) rfl
        have y1 := (unhide HX).cell (i := 1) rfl
        have y2 := (unhide HX).cell (i := 2) rfl
        have y3 := (unhide HX).cell (i := 3) rfl
        clear hA
        go_wp2_with (at_builtin; go_must (refine wpList_appRow tyHatch _ rfl _ _ rfl w.heap.size ro m c L rfl (unhide HL1) hws (by omega) (W4.heap.size + 1) (1 + xa, 1 + xb, 50 + xc, xd) 1 rfl (unhide HG) ?_); intro g' cap' w4 hL hK hBg hat; have HL2 := hide hL; have HK2 := hide (keptRow (unhide HK1) (unhide HL1) (by decide) hK); have HC2 := hide (curRow (unhide HC1) (unhide HL1) (by decide) hcl hK); clear hL hK hat)
        go_roundg (k * 1)
        case measure => omega
        case rel => exact ⟨k, m + 1, cap', _, _, by omega, rfl, by go_num, rfl, unhide HL2, unhide HC2, unhide HK2⟩
      | true =>
        go_wp2_with fail
        rw [← egb]
        clear egb
        refine (unhide QB _ (unhide HC) 2 (by omega) (by omega)).mono ?_
        rintro e W5 ⟨xe, rfl, xe0, xe1, hC, hK⟩
        replace HL := hide ((unhide HL).kept hK (fun g _ hg _ e => by omega))
        replace HX := hide ((unhide HX).kept hK (by omega))
        replace HK := hide ((unhide HK).trans hK)
        replace HC := hide hC
        clear hC hK
        have qe : IntKind.i64.wrap (1 + xe) = 1 + xe := by rw [IntKind.wrap_i64]; omega
        have y0 := (unhide HX).cell (i := 0) rfl
        have f0 := (unhide HX).frozen 0
        replace HX : Hid (OwnV (W5.setCell ⟨gb, 0, none⟩ (.int .i64 (1 + xe))) gb [.int .i64 (1 + xe), .int .i64 (1 + xb), .int .i64 (50 + xc), .int .i64 (xd)]) := (unhide HX).set 0 (.int .i64 (1 + xe)) (by simp)
        replace HL := hide (rowSet (i := 0) (u := .int .i64 (1 + xe)) (unhide HL) (unhide HNE))
        replace HK := hide (keptSet (i := 0) (u := .int .i64 (1 + xe)) (unhide HK) hgb)
        replace HC := hide (curSet (i := 0) (u := .int .i64 (1 + xe)) (unhide HC) (show cb < gb by omega))
        go_wp2_with fail
        refine (unhide QB _ (unhide HC) 2 (by omega) (by omega)).mono ?_
        rintro e W6 ⟨xf, rfl, xf0, xf1, hC, hK⟩
        replace HL := hide ((unhide HL).kept hK (fun g _ hg _ e => by omega))
        replace HX := hide ((unhide HX).kept hK (by omega))
        replace HK := hide ((unhide HK).trans hK)
        replace HC := hide hC
        clear hC hK y0 f0
        have qf : IntKind.i64.wrap (1 + xf) = 1 + xf := by rw [IntKind.wrap_i64]; omega
        have y1 := (unhide HX).cell (i := 1) rfl
        have f1 := (unhide HX).frozen 1
        replace HX : Hid (OwnV (W6.setCell ⟨gb, 1, none⟩ (.int .i64 (1 + xf))) gb [.int .i64 (1 + xe), .int .i64 (1 + xf), .int .i64 (50 + xc), .int .i64 (xd)]) := (unhide HX).set 1 (.int .i64 (1 + xf)) (by simp)
        replace HL := hide (rowSet (i := 1) (u := .int .i64 (1 + xf)) (unhide HL) (unhide HNE))
        replace HK := hide (keptSet (i := 1) (u := .int .i64 (1 + xf)) (unhide HK) hgb)
        replace HC := hide (curSet (i := 1) (u := .int .i64 (1 + xf)) (unhide HC) (show cb < gb by omega))
        by_cases hm2 : m = 2
        · have hm2i : ((m : Int) == 2) = true := by simp [hm2]
          clear hm2
          have y0 := (unhide HX).cell (i := 0) rfl
          have f0 := (unhide HX).frozen 0
          replace HX : Hid (OwnV ((W6.setCell ⟨gb, 1, none⟩ (.int .i64 (1 + xf))).setCell ⟨gb, 0, none⟩ (.int .i64 (1))) gb [.int .i64 (1), .int .i64 (1 + xf), .int .i64 (50 + xc), .int .i64 (xd)]) := (unhide HX).set 0 (.int .i64 (1)) (by simp)
          replace HL := hide (rowSet (i := 0) (u := .int .i64 (1)) (unhide HL) (unhide HNE))
          replace HK := hide (keptSet (i := 0) (u := .int .i64 (1)) (unhide HK) hgb)
          replace HC := hide (curSet (i := 0) (u := .int .i64 (1)) (unhide HC) (show cb < gb by omega))
          have z1 := (unhide HX).cell (i := 1) rfl
          have g1 := (unhide HX).frozen 1
          replace HX : Hid (OwnV (((W6.setCell ⟨gb, 1, none⟩ (.int .i64 (1 + xf))).setCell ⟨gb, 0, none⟩ (.int .i64 (1))).setCell ⟨gb, 1, none⟩ (.int .i64 (1))) gb [.int .i64 (1), .int .i64 (1), .int .i64 (50 + xc), .int .i64 (xd)]) := (unhide HX).set 1 (.int .i64 (1)) (by simp)
          replace HL := hide (rowSet (i := 1) (u := .int .i64 (1)) (unhide HL) (unhide HNE))
          replace HK := hide (keptSet (i := 1) (u := .int .i64 (1)) (unhide HK) hgb)
          replace HC := hide (curSet (i := 1) (u := .int .i64 (1)) (unhide HC) (show cb < gb by omega))
          have hG := ownV_alloc (((W6.setCell ⟨gb, 1, none⟩ (.int .i64 (1 + xf))).setCell ⟨gb, 0, none⟩ (.int .i64 (1))).setCell ⟨gb, 1, none⟩ (.int .i64 (1))) #[.int .i64 (1), .int .i64 (1), .int .i64 (50 + xc), .int .i64 (xd)] 108
          simp only [World.size_setCell] at hG
          have HG := hide hG
          clear hG
          have hA := Below.alloc1 (((W6.setCell ⟨gb, 1, none⟩ (.int .i64 (1 + xf))).setCell ⟨gb, 0, none⟩ (.int .i64 (1))).setCell ⟨gb, 1, none⟩ (.int .i64 (1))) (.cells #[.int .i64 (1), .int .i64 (1), .int .i64 (50 + xc), .int .i64 (xd)] 108)
          have HL1 := hide ((unhide HL).below hA)
          have HK1 := hide ((unhide HK).trans (kept_of_below hA))
          have HC1 := hide ((unhide HC).below hA)
          have hws := (unhide HK1).size
          have u0 := (unhide HX).cell (i := 0) rfl
          have u1 := (unhide HX).cell (i := 1) rfl
          have y2 := (unhide HX).cell (i := 2) rfl
          have y3 := (unhide HX).cell (i := 3) rfl
          clear hA
          go_wp2_with (at_builtin; go_must (refine wpList_appRow tyHatch _ rfl _ _ rfl w.heap.size ro m c L rfl (unhide HL1) hws (by omega) (W6.heap.size) (1, 1, 50 + xc, xd) 1 rfl (unhide HG) ?_); intro g' cap' w4 hL hK hBg hat; have HL2 := hide hL; have HK2 := hide (keptRow (unhide HK1) (unhide HL1) (by decide) hK); have HC2 := hide (curRow (unhide HC1) (unhide HL1) (by decide) hcl hK); clear hL hK hat)
          go_roundg (k * 1)
          case measure => omega
          case rel => exact ⟨k, m + 1, cap', _, _, by omega, rfl, by go_num, rfl, unhide HL2, unhide HC2, unhide HK2⟩
        · have hm2i : ((m : Int) == 2) = false := by simp; omega
          have hG := ownV_alloc (W6.setCell ⟨gb, 1, none⟩ (.int .i64 (1 + xf))) #[.int .i64 (1 + xe), .int .i64 (1 + xf), .int .i64 (50 + xc), .int .i64 (xd)] 108
          simp only [World.size_setCell] at hG
          have HG := hide hG
          clear hG
          have hA := Below.alloc1 (W6.setCell ⟨gb, 1, none⟩ (.int .i64 (1 + xf))) (.cells #[.int .i64 (1 + xe), .int .i64 (1 + xf), .int .i64 (50 + xc), .int .i64 (xd)] 108)
          have HL1 := hide ((unhide HL).below hA)
          have HK1 := hide ((unhide HK).trans (kept_of_below hA))
          have HC1 := hide ((unhide HC).below hA)
          have hws := (unhide HK1).size
          have y0 := (unhide HX).cell (i := 0) rfl
          have u1 := (unhide HX).cell (i := 1) rfl
          have y2 := (unhide HX).cell (i := 2) rfl
          have y3 := (unhide HX).cell (i := 3) rfl
          clear hA
          go_wp2_with (at_builtin; go_must (refine wpList_appRow tyHatch _ rfl _ _ rfl w.heap.size ro m c L rfl (unhide HL1) hws (by omega) (W6.heap.size) (1 + xe, 1 + xf, 50 + xc, xd) 1 rfl (unhide HG) ?_); intro g' cap' w4 hL hK hBg hat; have HL2 := hide hL; have HK2 := hide (keptRow (unhide HK1) (unhide HL1) (by decide) hK); have HC2 := hide (curRow (unhide HC1) (unhide HL1) (by decide) hcl hK); clear hL hK hat)
          go_roundg (k * 1)
          case measure => omega
          case rel => exact ⟨k, m + 1, cap', _, _, by omega, rfl, by go_num, rfl, unhide HL2, unhide HC2, unhide HK2⟩
    · have hk00 : k1 = 0 := by omega
      subst hk00
      obtain ⟨g, rfl, hgw, hOL, hmc, hcm⟩ : ∃ g, ro = some ⟨g, 0, none⟩ ∧ w.heap.size ≤ g ∧ OwnV wr g (recCells 4 eHatch L) ∧ m ≤ c ∧ c ≤ maxLen := by
        rcases (unhide HL).parts (by decide) with ⟨_, h0, _⟩ | ⟨g, e, h1, _, h2, h3, h4⟩
        · omega
        · exact ⟨g, e, h1, h4, h2, h3⟩
      have hLm := (unhide HL).len (by decide)
      have HO := hide hOL
      clear hOL HL
      obtain ⟨a, t, rfl⟩ : ∃ a t, L = a :: t := by
        cases L with
        | nil => simp at hLm; omega
        | cons a t => exact ⟨a, t, rfl⟩
      obtain ⟨a0, a1, a2, a3⟩ := a
      have hm3 : m ≤ 3 := by omega
      have hm1 : 1 ≤ m := by omega
      rw [List.length_cons] at hLm
      subst hLm
      go_wp2_with fail
      refine (unhide QB _ (unhide HC) 60 (by omega) (by omega)).mono ?_
      rintro e W1 ⟨z, rfl, z0, z1, hC, hK⟩
      replace HO := hide ((unhide HO).kept hK (by omega))
      replace HK := hide ((unhide HK).trans hK)
      replace HC := hide hC
      clear hC hK QB
      have hmi : (0 : Int) < (t.length : Int) + 1 := by omega
      by_cases hz0 : z = 0
      · subst hz0
        have hA3 := Below.alloc1 W1 (.cells #[.int .i64 (0), .int .i64 (6), .int .i64 (7)] 3)
        have HI : Hid (OwnV (W1.alloc (.cells #[.int .i64 (0), .int .i64 (6), .int .i64 (7)] 3)) W1.heap.size (ints [0, 6, 7])) := ownV_alloc W1 #[.int .i64 (0), .int .i64 (6), .int .i64 (7)] 3
        have QP := hide (l1PickInt_any cb n v W1.heap.size 3 [0, 6, 7] _ ((unhide HC).below hA3) hn (unhide HI) (by have := (unhide HC).lt; omega) rfl (by omega) (by omega))
        replace HO := hide ((unhide HO).step hA3)
        replace HK := hide ((unhide HK).trans (kept_of_below hA3))
        clear hA3 HI HC
        go_wp2_with fail
        refine (unhide QP).mono ?_
        rintro e W2 ⟨y, rfl, hC, hK⟩
        replace HO := hide ((unhide HO).kept hK (by omega))
        replace HK := hide ((unhide HK).trans hK)
        have HC := hide hC
        clear hC hK QP
        rw [recH_cons] at HO
        have y0 := (unhide HO).cell (i := 0) rfl
        have f0 := (unhide HO).frozen 0
        have HO2 : Hid (OwnV (W2.setCell ⟨g, 0, none⟩ (.int .i64 y)) g (recCells 4 eHatch ((y, a1, a2, a3) :: t))) := by
          show OwnV _ _ _
          rw [recH_cons]
          exact (unhide HO).set 0 (.int .i64 y) (by simp)
        have HK2 := hide (keptSet (i := 0) (u := .int .i64 y) (unhide HK) hgw)
        have HC2 := hide (curSet (i := 0) (u := .int .i64 y) (unhide HC) (show cb < g by omega))
        go_wp2
        go_ret
        exact bays_mk (L := (y, a1, a2, a3) :: t) rfl (by omega) ⟨_, _, rfl, hmc, hcm, fun _ => ⟨g, rfl, hgw, unhide HO2⟩⟩ (unhide HC2) (unhide HK2)
      have dz0 : (z == 0) = false := by simp [hz0]
      by_cases hz1 : z = 1
      · subst hz1
        have hA3 := Below.alloc1 W1 (.cells #[.int .i64 (-1), .int .i64 (1000000), .int .i64 (1000001)] 3)
        have HI : Hid (OwnV (W1.alloc (.cells #[.int .i64 (-1), .int .i64 (1000000), .int .i64 (1000001)] 3)) W1.heap.size (ints [-1, 1000000, 1000001])) := ownV_alloc W1 #[.int .i64 (-1), .int .i64 (1000000), .int .i64 (1000001)] 3
        have QP := hide (l1PickInt_any cb n v W1.heap.size 3 [-1, 1000000, 1000001] _ ((unhide HC).below hA3) hn (unhide HI) (by have := (unhide HC).lt; omega) rfl (by omega) (by omega))
        replace HO := hide ((unhide HO).step hA3)
        replace HK := hide ((unhide HK).trans (kept_of_below hA3))
        clear hA3 HI HC
        go_wp2_with fail
        refine (unhide QP).mono ?_
        rintro e W2 ⟨y, rfl, hC, hK⟩
        replace HO := hide ((unhide HO).kept hK (by omega))
        replace HK := hide ((unhide HK).trans hK)
        have HC := hide hC
        clear hC hK QP
        rw [recH_cons] at HO
        have y0 := (unhide HO).cell (i := 2) rfl
        have f0 := (unhide HO).frozen 2
        have HO2 : Hid (OwnV (W2.setCell ⟨g, 2, none⟩ (.int .i64 y)) g (recCells 4 eHatch ((a0, a1, y, a3) :: t))) := by
          show OwnV _ _ _
          rw [recH_cons]
          exact (unhide HO).set 2 (.int .i64 y) (by simp)
        have HK2 := hide (keptSet (i := 2) (u := .int .i64 y) (unhide HK) hgw)
        have HC2 := hide (curSet (i := 2) (u := .int .i64 y) (unhide HC) (show cb < g by omega))
        go_wp2
        go_ret
        exact bays_mk (L := (a0, a1, y, a3) :: t) rfl (by omega) ⟨_, _, rfl, hmc, hcm, fun _ => ⟨g, rfl, hgw, unhide HO2⟩⟩ (unhide HC2) (unhide HK2)
      have dz1 : (z == 1) = false := by simp [hz1]
      by_cases hz2 : z = 2
      · subst hz2
        have hA3 := Below.alloc1 W1 (.cells #[.int .i64 (-1), .int .i64 (36), .int .i64 (37)] 3)
        have HI : Hid (OwnV (W1.alloc (.cells #[.int .i64 (-1), .int .i64 (36), .int .i64 (37)] 3)) W1.heap.size (ints [-1, 36, 37])) := ownV_alloc W1 #[.int .i64 (-1), .int .i64 (36), .int .i64 (37)] 3
        have QP := hide (l1PickInt_any cb n v W1.heap.size 3 [-1, 36, 37] _ ((unhide HC).below hA3) hn (unhide HI) (by have := (unhide HC).lt; omega) rfl (by omega) (by omega))
        replace HO := hide ((unhide HO).step hA3)
        replace HK := hide ((unhide HK).trans (kept_of_below hA3))
        clear hA3 HI HC
        go_wp2_with fail
        refine (unhide QP).mono ?_
        rintro e W2 ⟨y, rfl, hC, hK⟩
        replace HO := hide ((unhide HO).kept hK (by omega))
        replace HK := hide ((unhide HK).trans hK)
        have HC := hide hC
        clear hC hK QP
        rw [recH_cons] at HO
        have y0 := (unhide HO).cell (i := 3) rfl
        have f0 := (unhide HO).frozen 3
        have HO2 : Hid (OwnV (W2.setCell ⟨g, 3, none⟩ (.int .i64 y)) g (recCells 4 eHatch ((a0, a1, a2, y) :: t))) := by
          show OwnV _ _ _
          rw [recH_cons]
          exact (unhide HO).set 3 (.int .i64 y) (by simp)
        have HK2 := hide (keptSet (i := 3) (u := .int .i64 y) (unhide HK) hgw)
        have HC2 := hide (curSet (i := 3) (u := .int .i64 y) (unhide HC) (show cb < g by omega))
        go_wp2
        go_ret
        exact bays_mk (L := (a0, a1, a2, y) :: t) rfl (by omega) ⟨_, _, rfl, hmc, hcm, fun _ => ⟨g, rfl, hgw, unhide HO2⟩⟩ (unhide HC2) (unhide HK2)
      have dz2 : (z == 2) = false := by simp [hz2]
      by_cases hz3 : z = 3
      · subst hz3
        have hA3 := Below.alloc1 W1 (.cells #[.int .i64 0, .int .i64 6, .int .i64 7] 3)
        have HI : Hid (OwnV (W1.alloc (.cells #[.int .i64 0, .int .i64 6, .int .i64 7] 3)) W1.heap.size (ints [0, 6, 7])) := ownV_alloc W1 #[.int .i64 0, .int .i64 6, .int .i64 7] 3
        have QP := hide (l1PickIntM_any cb n v W1.heap.size 3 [0, 6, 7] _ ((unhide HC).below hA3) hn (unhide HI) (by have := (unhide HC).lt; omega) rfl (by omega) (by omega))
        replace HK := hide ((unhide HK).trans (kept_of_below hA3))
        clear hA3 HI HC HO
        go_wp2_with fail
        refine (unhide QP).mono ?_
        rintro e W2 ⟨y, rfl, hy, hC, hK⟩
        replace HK := hide ((unhide HK).trans hK)
        have HC := hide hC
        obtain ⟨N, rfl, hN⟩ : ∃ N : Nat, y = (N : Int) ∧ (N = 0 ∨ N = 6 ∨ N = 7) := by
          simp only [List.mem_cons, List.not_mem_nil, or_false] at hy
          rcases hy with e | e | e
          · exact ⟨0, e, Or.inl rfl⟩
          · exact ⟨6, e, Or.inr (Or.inl rfl)⟩
          · exact ⟨7, e, Or.inr (Or.inr rfl)⟩
        have hmk := run_make_recs (P := Try.prog) 32 108 _ 4 32 Try.underlying32 Try.infoHatch .i64 .i64 N (by omega) (by omega)
        obtain ⟨Z, eZ⟩ : ∃ Z, Z = (vHatch 0 0 0 0).cells := ⟨_, rfl⟩
        rw [← eZ] at hmk
        have hA4 := Below.alloc1 W2 (.cells (madeCells Z (N * 4)) 108)
        have HO : Hid (OwnV (W2.alloc (.cells (madeCells Z (N * 4)) 108)) W2.heap.size (ints (List.replicate (N * 4) 0))) := by
          have h := ownV_alloc W2 (madeCells Z (N * 4)) 108
          have e : (madeCells Z (N * 4)).toList = ints (List.replicate (N * 4) 0) := by
            rw [eZ]
            exact made_hatch (N * 4)
          show OwnV _ _ _
          rw [← e]
          exact h
        have hgw2 : w.heap.size ≤ W2.heap.size := (unhide HK).size
        replace HK := hide ((unhide HK).trans (kept_of_below hA4))
        replace HC := hide ((unhide HC).below hA4)
        have hN7 : N ≤ 7 := by omega
        clear hA4 hC hK QP hy hN eZ
        go_wp2
        clear hmk
        obtain ⟨g2, eg2⟩ : ∃ g, g = W2.heap.size := ⟨_, rfl⟩
        rw [← eg2] at HO hgw2 ⊢
        clear eg2
        generalize W2.alloc (.cells (madeCells Z (N * 4)) 108) = W3 at *
        go_loopg [8] N (fun g iv wr => ∃ (i : Nat) (xs : List Int), i ≤ N ∧ g = N - i ∧ iv = .int .i64 i ∧ xs.length = N * 4 ∧ Hid (OwnV wr g2 (ints xs)) ∧ Hid (Cur wr cb v n) ∧ Hid (Kept (fun b => b = cb) w wr))
        case atStart => exact ⟨0, List.replicate (N * 4) 0, Nat.zero_le _, rfl, rfl, by simp, unhide HO, unhide HC, unhide HK⟩
        case round =>
          clear HO HC HK
          obtain ⟨i, xs, hi, rfl, rfl, hxs, HO, HC, HK⟩ := hrel
          by_cases hin : i < N
          · have hii : (i : Int) < N := by omega
            have y0 := (unhide HO).cell (ints_get xs (i := i * 4) (by omega))
            have y1 := (unhide HO).cell (ints_get xs (i := i * 4 + 1) (by omega))
            have y2 := (unhide HO).cell (ints_get xs (i := i * 4 + 2) (by omega))
            have y3 := (unhide HO).cell (ints_get xs (i := i * 4 + 3) (by omega))
            have f0 := (unhide HO).frozen (i * 4)
            have f1 := (unhide HO).frozen (i * 4 + 1)
            have f2 := (unhide HO).frozen (i * 4 + 2)
            have f3 := (unhide HO).frozen (i * 4 + 3)
            have HO2 := hide (ownIntsSet (ownIntsSet (ownIntsSet (ownIntsSet (unhide HO) (i * 4) 1 (by omega)) (i * 4 + 1) 1 (by simp; omega)) (i * 4 + 2) 500 (by simp; omega)) (i * 4 + 3) 0 (by simp; omega))
            have HC2 := hide (curSet (i := i * 4 + 3) (u := .int .i64 0) (curSet (i := i * 4 + 2) (u := .int .i64 500) (curSet (i := i * 4 + 1) (u := .int .i64 1) (curSet (i := i * 4) (u := .int .i64 1) (unhide HC) (show cb < g2 by omega)) (show cb < g2 by omega)) (show cb < g2 by omega)) (show cb < g2 by omega))
            have HK2 := hide (keptSet (i := i * 4 + 3) (u := .int .i64 0) (keptSet (i := i * 4 + 2) (u := .int .i64 500) (keptSet (i := i * 4 + 1) (u := .int .i64 1) (keptSet (i := i * 4) (u := .int .i64 1) (unhide HK) hgw2) hgw2) hgw2) hgw2)
            go_wp2
            go_roundg (N - (i + 1))
            case measure => omega
            case rel => exact ⟨i + 1, _, by omega, rfl, by go_num, by simp only [List.length_set]; exact hxs, unhide HO2, unhide HC2, unhide HK2⟩
          · have hii : ¬ (i : Int) < N := by omega
            obtain ⟨LL, hLL, hrec⟩ := ints_hatch N xs hxs
            have HO2 : Hid (OwnV wr g2 (recCells 4 eHatch LL)) := by show OwnV _ _ _; rw [hrec]; exact unhide HO
            clear hrec HO
            subst hLL
            go_wp2
            go_ret
            exact bays_mk (L := LL) rfl (by omega) ⟨_, _, rfl, Nat.le_refl _, by unfold maxLen; omega, fun _ => ⟨g2, rfl, hgw2, unhide HO2⟩⟩ (unhide HC) (unhide HK)
      have dz3 : (z == 3) = false := by simp [hz3]
      clear hz0 hz1 hz2 hz3
      go_wp2
      go_ret
      exact bays_mk (L := (a0, a1, a2, a3) :: t) rfl (by omega) ⟨_, _, rfl, hmc, hcm, fun _ => ⟨g, rfl, hgw, unhide HO⟩⟩ (unhide HC) (unhide HK)

end

section
open Go.RowKit

/-- What is drawn: bays and boxes that can be read. -/
def FewAns (w : World) (e : Ending) (w' : World) : Prop := ∃ a1 m1 c1 H a2 m2 c2 BX, e = .returned (.tuple #[.slice a1 m1 c1, .slice a2 m2 c2]) ∧ RHatch w' (.slice a1 m1 c1) H ∧ RBox w' (.slice a2 m2 c2) BX ∧ Below w.heap.size w w'
theorem fewd_mk {w w' : World} {e : Ending} {a1 a2 : Option Addr} {m1 c1 m2 c2 : Nat} {H : List HatchT} {BX : List BoxT} (h1 : e = .returned (.tuple #[.slice a1 m1 c1, .slice a2 m2 c2])) (h2 : RHatch w' (.slice a1 m1 c1) H) (h3 : RBox w' (.slice a2 m2 c2) BX) (h4 : Below w.heap.size w w') : FewAns w e w' := ⟨_, _, _, H, _, _, _, BX, h1, h2, h3, h4⟩
theorem fewd_out {w w' : World} {e : Ending} (h : FewAns w e w') : ∃ a1 m1 c1 H a2 m2 c2 BX, e = .returned (.tuple #[.slice a1 m1 c1, .slice a2 m2 c2]) ∧ RHatch w' (.slice a1 m1 c1) H ∧ RBox w' (.slice a2 m2 c2) BX ∧ Below w.heap.size w w' := h

set_option maxRecDepth 10000 in
set_option maxHeartbeats 25600000 in
theorem DrawFewest_any (v : Value) (n : Nat) (w : World) (h : BytesIn w.heap.size w v n) (hn : n ≤ 1048576) :
    Calls Try.prog 21 #[v] w fun e w' => FewAns w e w' := by
  have Q0 := hide (l1New_any v n w h hn)
  have QBY := hide fun cb W (hW : Cur W cb v n) => l12DrawBays_any cb n v true W hW hn
  clear h
  go_enter Try.func21, Try.ntmps21
  go_wp2_with fail
  refine (unhide Q0).mono ?_
  rintro e w1 ⟨rfl, hC, hb, hsz⟩
  obtain ⟨cb, ecb⟩ : ∃ c, c = w.heap.size := ⟨_, rfl⟩
  rw [← ecb] at hC hsz ⊢
  have hcw : w.heap.size ≤ cb := by omega
  have hcb1 : cb < w1.heap.size := by omega
  have HC := hide hC
  have HW1 := hide hb
  clear ecb hC hb hsz Q0
  go_wp2_with fail
  refine (unhide QBY cb _ (unhide HC)).mono ?_
  intro e w2 hans
  obtain ⟨ba, bm, bc, HH, rfl, hb7, hOR, hC, hK⟩ := bays_out hans
  have HBAY := hide hOR.upto
  have hcl : cb < w2.heap.size := by have := hK.size; omega
  have HW2 := hide ((unhide HW1).trans (hK.below (unhide HW1).size (fun k e => by omega)))
  have hA := Below.alloc1 w2 (.cells #[] 27)
  have HL := hide (rowB_new 27 6 eBox w2 w2.heap.size (Nat.le_refl _))
  replace HC := hide (hC.below hA)
  have HK : Hid (Kept (fun b => b = cb) w2 (w2.alloc (.cells #[] 27))) := kept_of_below hA
  have QB := hide fun W (hW : Cur W cb v n) k h0 h1 => l1BelowV_any cb n v k W hW hn h0 h1
  have QD := hide fun W (hW : Cur W cb v n) => l11Draw_any cb n v W hW hn
  have QA := hide fun W (hW : Cur W cb v n) => l11DrawAny_any cb n v W hW hn
  clear hans hOR hC hK hA QBY HW1 hb7
  go_wp2_with fail
  refine (unhide QB _ (unhide HC) 5 (by omega) (by omega)).mono ?_
  rintro e w3 ⟨x, rfl, x0, x1, hC, hK⟩
  replace HL := hide ((unhide HL).kept hK (fun g _ hg _ e => by omega))
  replace HK := hide ((unhide HK).trans hK)
  replace HC := hide hC
  clear hC hK
  obtain ⟨xn, rfl⟩ : ∃ j : Nat, x = (j : Int) := ⟨x.toNat, by omega⟩
  go_wp2
  obtain ⟨g0, hg0⟩ : ∃ g, g = w2.heap.size := ⟨_, rfl⟩
  clear hg0
  go_loopg [6, 7] xn (fun g ov iv wr => ∃ (k m c : Nat) (ro : Option Addr) (L : List BoxT), k + m = xn ∧ g = k * 1 ∧ iv = .int .i64 k ∧ ov = .slice ro m c ∧ Hid (RowB 27 6 eBox w2.heap.size wr ro m c L) ∧ Hid (Cur wr cb v n) ∧ Hid (Kept (fun b => b = cb) w2 wr))
  case atStart => exact ⟨xn, 0, 0, some ⟨w2.heap.size, 0, none⟩, [], by omega, by omega, by go_num, rfl, unhide HL, unhide HC, unhide HK⟩
  case round =>
    clear HL HC HK
    obtain ⟨k1, m, c, ro, L, hkm, rfl, rfl, rfl, HL, HC, HK⟩ := hrel
    by_cases hk0 : 0 < k1
    · obtain ⟨k, rfl⟩ : ∃ k, k1 = k + 1 := ⟨k1 - 1, by omega⟩
      have hki : (0 : Int) < (k : Int) + 1 := by omega
      have hki2 : (0 : Int) < ((k + 1 : Nat) : Int) := by omega
      go_wp2_with fail
      refine (unhide QD _ (unhide HC)).mono ?_
      rintro e W1 ⟨s, wt, cl, co, fr, to, rfl, hC, hK⟩
      replace HL := hide ((unhide HL).kept hK (fun g _ hg _ e => by omega))
      replace HK := hide ((unhide HK).trans hK)
      replace HC := hide hC
      clear hC hK
      have hks := (unhide HK).size
      have HL0 := HL
      have hA0 := Below.alloc1 W1 (.cells #[.string s, .int .i64 wt, .int .i64 cl, .bool co, .int .i64 fr, .int .i64 to] 27)
      have HX := hide (ownV_alloc W1 #[.string s, .int .i64 wt, .int .i64 cl, .bool co, .int .i64 fr, .int .i64 to] 27)
      replace HL := hide ((unhide HL).below hA0)
      replace HK := hide ((unhide HK).trans (kept_of_below hA0))
      replace HC := hide ((unhide HC).below hA0)
      clear hA0
      obtain ⟨gb, egb⟩ : ∃ g, g = W1.heap.size := ⟨_, rfl⟩
      have hgb : w2.heap.size ≤ gb := by rw [egb]; exact hks
      have HNE : Hid (ro ≠ some ⟨gb, 0, none⟩) := fun e => by
        rcases (unhide HL0).parts (by decide) with ⟨e2, _⟩ | ⟨g, e2, _, hlt, _⟩
        · rw [e] at e2; cases e2
        · rw [e] at e2; simp only [Option.some.injEq, Addr.mk.injEq, and_true] at e2; omega
      clear HL0
      rw [← egb] at HX
      unfold vBox
      go_wp2_with fail
      rw [← egb]
      clear egb
      refine (unhide QB _ (unhide HC) 3 (by omega) (by omega)).mono ?_
      rintro e W2 ⟨xe, rfl, xe0, xe1, hC, hK⟩
      replace HL := hide ((unhide HL).kept hK (fun g _ hg _ e => by omega))
      replace HX := hide ((unhide HX).kept hK (by omega))
      replace HK := hide ((unhide HK).trans hK)
      replace HC := hide hC
      clear hC hK
      have qe : IntKind.i64.wrap (1 + xe) = 1 + xe := by rw [IntKind.wrap_i64]; omega
      have y1 := (unhide HX).cell (i := 1) rfl
      have f1 := (unhide HX).frozen 1
      replace HX : Hid (OwnV (W2.setCell ⟨gb, 1, none⟩ (.int .i64 (1 + xe))) gb [.string s, .int .i64 (1 + xe), .int .i64 cl, .bool co, .int .i64 fr, .int .i64 to]) := (unhide HX).set 1 (.int .i64 (1 + xe)) (by simp)
      replace HL := hide (rowSet (i := 1) (u := .int .i64 (1 + xe)) (unhide HL) (unhide HNE))
      replace HK := hide (keptSet (i := 1) (u := .int .i64 (1 + xe)) (unhide HK) hgb)
      replace HC := hide (curSet (i := 1) (u := .int .i64 (1 + xe)) (unhide HC) (show cb < gb by omega))
      go_wp2
      clear y1 f1
      generalize (W2.setCell ⟨gb, 1, none⟩ (.int .i64 (1 + xe))) = Y at *
      have y2 := (unhide HX).cell (i := 2) rfl
      have yf2 := (unhide HX).frozen 2
      go_region_with (first | (go_at_call 56; refine (unhide QB _ (by first | exact unhide HC | exact (unhide HC).below (Below.refl _ _).drew) 2 (by omega) (by omega)).mono ?_; rintro e W3 ⟨xg, rfl, xg0, xg1, hC, hK0⟩; have hK : Kept (fun b => b = cb) Y W3 := ⟨hK0.os, hK0.tape, hK0.output, hK0.size, hK0.block⟩; replace HL := hide ((unhide HL).kept hK (fun g _ hg _ e => by omega)); replace HX := hide ((unhide HX).kept hK (by omega)); replace HK := hide ((unhide HK).trans hK); replace HC := hide hC; clear hC hK hK0; have z2 := (unhide HX).cell (i := 2) rfl; have zf2 := (unhide HX).frozen 2; obtain ⟨pm, hpm⟩ : ∃ p, IntKind.i64.wrap (cl * xg) = p := ⟨_, rfl⟩))
      all_goals
        clear y2 yf2 z2 zf2 hpm
        have y2 := (unhide HX).cell (i := 2) rfl
        have f2 := (unhide HX).frozen 2
        replace HX : Hid (OwnV (W3.setCell ⟨gb, 2, none⟩ (.int .i64 pm)) gb [.string s, .int .i64 (1 + xe), .int .i64 pm, .bool co, .int .i64 fr, .int .i64 to]) := (unhide HX).set 2 (.int .i64 pm) (by simp)
        replace HL := hide (rowSet (i := 2) (u := .int .i64 pm) (unhide HL) (unhide HNE))
        replace HK := hide (keptSet (i := 2) (u := .int .i64 pm) (unhide HK) hgb)
        replace HC := hide (curSet (i := 2) (u := .int .i64 pm) (unhide HC) (show cb < gb by omega))
        have hG := ownV_alloc (W3.setCell ⟨gb, 2, none⟩ (.int .i64 pm)) #[.string s, .int .i64 (1 + xe), .int .i64 pm, .bool co, .int .i64 fr, .int .i64 to] 27
        simp only [World.size_setCell] at hG
        have HG := hide hG
        have hA := Below.alloc1 (W3.setCell ⟨gb, 2, none⟩ (.int .i64 pm)) (.cells #[.string s, .int .i64 (1 + xe), .int .i64 pm, .bool co, .int .i64 fr, .int .i64 to] 27)
        have HL1 := hide ((unhide HL).below hA)
        have HK1 := hide ((unhide HK).trans (kept_of_below hA))
        have HC1 := hide ((unhide HC).below hA)
        have hws := (unhide HK1).size
        have u0 := (unhide HX).cell (i := 0) rfl
        have u1 := (unhide HX).cell (i := 1) rfl
        have u2 := (unhide HX).cell (i := 2) rfl
        have u3 := (unhide HX).cell (i := 3) rfl
        have u4 := (unhide HX).cell (i := 4) rfl
        have u5 := (unhide HX).cell (i := 5) rfl
        clear hA hG
        go_wp2_with (at_builtin; go_must (refine wpList_appRow tyBox _ rfl _ _ rfl w2.heap.size ro m c L rfl (unhide HL1) hws (by omega) (W3.heap.size) (s, 1 + xe, pm, co, fr, to) 1 rfl (unhide HG) ?_); intro g' cap' w4 hL hK hBg hat; have HL2 := hide hL; have HK2 := hide (keptRow (unhide HK1) (unhide HL1) (by decide) hK); have HC2 := hide (curRow (unhide HC1) (unhide HL1) (by decide) hcl hK); clear hL hK hat)
        go_roundg (k * 1)
        case measure => omega
        case rel => exact ⟨k, m + 1, cap', _, _, by omega, rfl, by go_num, rfl, unhide HL2, unhide HC2, unhide HK2⟩
    · have hk00 : k1 = 0 := by omega
      subst hk00
      have hm4 : m ≤ 4 := by omega
      go_wp2_with fail
      refine (unhide QB _ (unhide HC) 30 (by omega) (by omega)).mono ?_
      rintro e W1 ⟨z, rfl, z0, z1, hC, hK⟩
      replace HL := hide ((unhide HL).kept hK (fun g _ hg _ e => by omega))
      replace HK := hide ((unhide HK).trans hK)
      replace HC := hide hC
      clear hC hK
      by_cases hz0 : z = 0
      · subst hz0
        go_wp2_with fail
        refine (unhide QA _ (unhide HC)).mono ?_
        rintro e W2 ⟨s, wt, cl, co, fr, to, rfl, hC, hK⟩
        replace HL := hide ((unhide HL).kept hK (fun g _ hg _ e => by omega))
        replace HK := hide ((unhide HK).trans hK)
        replace HC := hide hC
        clear hC hK
        unfold vBox
        have hG := ownV_alloc W2 #[.string s, .int .i64 wt, .int .i64 cl, .bool co, .int .i64 fr, .int .i64 to] 27
        have HG := hide hG
        have hA := Below.alloc1 W2 (.cells #[.string s, .int .i64 wt, .int .i64 cl, .bool co, .int .i64 fr, .int .i64 to] 27)
        have HL1 := hide ((unhide HL).below hA)
        have HK1 := hide ((unhide HK).trans (kept_of_below hA))
        have HC1 := hide ((unhide HC).below hA)
        have hws := (unhide HK1).size
        clear hA hG
        go_wp2_with (at_builtin; go_must (refine wpList_appRow tyBox _ rfl _ _ rfl w2.heap.size ro m c L rfl (unhide HL1) hws (by omega) (W2.heap.size) (s, wt, cl, co, fr, to) 1 rfl (unhide HG) ?_); intro g' cap' w4 hL hK hBg hat; have HL2 := hide hL; have HK2 := hide (keptRow (unhide HK1) (unhide HL1) (by decide) hK); have HC2 := hide (curRow (unhide HC1) (unhide HL1) (by decide) hcl hK); clear hL hK hat)
        have HRB := hide ((unhide HL2).recs (by decide))
        have HBa := hide ((unhide HBAY).kept (unhide HK2) (fun b h1 h2 e => by omega))
        have HWf := hide ((unhide HW2).trans ((unhide HK2).below (unhide HW2).size (fun k e => by omega)))
        refine bodyPost_ret (v := .tuple #[.slice ba bm bc, .slice (some ⟨g', 0, none⟩) (m + 1) (cap')]) (by simp [results, Try.results21, go_sem]) rfl (fewd_mk rfl (unhide HBa).inn (unhide HRB) (unhide HWf))
      have dz0 : (z == 0) = false := by simp [hz0]
      by_cases hz1 : z = 1
      · subst hz1
        have hws := (unhide HK).size
        have HRL := hide ((unhide HL).recs (by decide))
        go_wp2_with (at_builtin; go_must (refine wpList_appAll tyBox _ rfl _ _ rfl w2.heap.size ro m c L rfl (unhide HL) hws (by omega) ro m c L rfl (unhide HRL) (by omega) ?_); intro ao' cap' w4 hL hK; have HL2 := hide hL; have HK2 := hide (keptRow (unhide HK) (unhide HL) (by decide) hK); clear hL hK)
        have HRB := hide ((unhide HL2).recs (by decide))
        have HBa := hide ((unhide HBAY).kept (unhide HK2) (fun b h1 h2 e => by omega))
        have HWf := hide ((unhide HW2).trans ((unhide HK2).below (unhide HW2).size (fun k e => by omega)))
        refine bodyPost_ret (v := .tuple #[.slice ba bm bc, .slice (ao') (m + m) (cap')]) (by simp [results, Try.results21, go_sem]) rfl (fewd_mk rfl (unhide HBa).inn (unhide HRB) (unhide HWf))
      have dz1 : (z == 1) = false := by simp [hz1]
      clear hz0 hz1
      go_wp2
      have HRB := hide ((unhide HL).recs (by decide))
      have HBa := hide ((unhide HBAY).kept (unhide HK) (fun b h1 h2 e => by omega))
      have HWf := hide ((unhide HW2).trans ((unhide HK).below (unhide HW2).size (fun k e => by omega)))
      refine bodyPost_ret (v := .tuple #[.slice ba bm bc, .slice (ro) (m) (c)]) (by simp [results, Try.results21, go_sem]) rfl (fewd_mk rfl (unhide HBa).inn (unhide HRB) (unhide HWf))

end

section
open Go.RowKit

set_option maxHeartbeats 400000 in
theorem at_fix (v : Value) (n : Nat) (k : Nat) (w : World) (h : BytesIn w.heap.size w v n) (hn : n ≤ 1048576) (hk : k ≤ 1000) :
    ∃ y : Int, 0 ≤ y ∧ y ≤ 255 ∧ ∀ W, Below w.heap.size w W → Calls Try.prog 12 #[v, .int .i64 k] W fun e w' => e = .returned (.int .i64 y) ∧ w' = W := by
  obtain ⟨ao, cap, rfl, _, _, hc⟩ := h
  by_cases hkn : k < n
  · have hkn' : (k : Int) < (n : Int) := by omega
    obtain ⟨b, o, y, rfl, hlt, hcell, hy1, hy2⟩ := hc k hkn
    refine ⟨y, hy1, hy2, fun W hW => ?_⟩
    have hcell' := (hW.cell (p := ⟨b, o + k, none⟩) hlt).trans hcell
    clear hc hcell hW
    go_enter Try.func12, Try.ntmps12
    go_wp2
    go_ret
    exact ⟨rfl, rfl⟩
  · have hkn' : (n : Int) ≤ (k : Int) := by omega
    refine ⟨((k : Int) * 7 + n) % 256, by omega, by omega, fun W hW => ?_⟩
    clear hc hW
    go_enter Try.func12, Try.ntmps12
    go_wp2
    go_ret
    exact ⟨rfl, rfl⟩

theorem at_i (v : Value) (n B : Nat) (c : Int) (w : World) (h : BytesIn B w v n) (hn : n ≤ 1048576) (h0 : 0 ≤ c) (h1 : c ≤ 1000) :
    Calls Try.prog 12 #[v, .int .i64 c] w fun e w' => ∃ x, e = .returned (.int .i64 x) ∧ 0 ≤ x ∧ x ≤ 255 ∧ w = w' := by
  obtain ⟨k, rfl⟩ := Int.eq_ofNat_of_zero_le h0
  exact at_any v n B k w h hn (by omega)

end

section
open Go.ChangeShapes Go.WideShapes Go.ChangeAt Go.RowKit

set_option maxRecDepth 100000 in
theorem open_bytes {H : Type} {enc : TypeId × Value → H} {W : World} {base : Nat} {v0 : Value} {d0 : DataW H} {p0 : List MemPlace} (hv : Value.okWide Try.prog W .any base 22 v0)
    (h0 : DataW.Trod enc Try.prog W 0 (fun _ => true) true 22 v0 d0 p0) : ∃ n, BytesIn W.heap.size W v0 n := by
  obtain ⟨a0, len, cap, rfl⟩ := okWide_slice Try.underlying22 hv
  obtain ⟨fuel, hf⟩ := h0
  rcases open_ints Try.underlying22 Try.underlying5 (by kernel_rfl) hf with ⟨hcs, _⟩ | ⟨x, l, c, zs, hcs, _, hl, hm, hz, _, hcell, hwz⟩
  · simp [Value.cells] at hcs
    obtain ⟨rfl, rfl, rfl⟩ := hcs
    exact ⟨0, none, 0, rfl, Nat.le_refl _, Nat.zero_le _, fun i hi => by omega⟩
  · simp [Value.cells] at hcs
    obtain ⟨rfl, rfl, rfl⟩ := hcs
    simp only [if_true] at hz
    refine ⟨len, some x, cap, rfl, hl, hm, fun i hi => ?_⟩
    obtain ⟨b, o, sp⟩ := x
    have hs : sp = none := by simpa [Addr.add] using World.cell?_spot (hcell 0 (by omega))
    subst hs
    have hc := hcell i (by omega)
    rw [add_plain] at hc
    have hb := bounds_u8 (hwz (zs.getD i 0) (by rw [getD_lt (show i < zs.length by omega)]; exact List.getElem_mem _))
    exact ⟨b, o, zs.getD i 0, rfl, lt_of_cell hc, hc, hb.1, by omega⟩

end

section
open Go.RowKit

theorem belowSpot {a w : World} (h : Below a.heap.size a w) {g : Nat} (hg : a.heap.size ≤ g) (i : Nat) (x y z : Int) : Below a.heap.size a (((w.setCell ⟨g, i * 9 + 6, none⟩ (.int .i64 x)).setCell ⟨g, i * 9 + 7, none⟩ (.int .i64 y)).setCell ⟨g, i * 9 + 8, none⟩ (.int .i64 z)) := by
  have one : ∀ (W : World) (j : Nat) (u : Value), Below a.heap.size a W → Below a.heap.size a (W.setCell ⟨g, j, none⟩ u) := fun W j u hW =>
    hW.trans ((Kept.setCell (T := fun k => k = g) (Kept.refl _ W) (p := ⟨g, j, none⟩) rfl u).below hW.size (fun k e => by omega))
  exact one _ _ _ (one _ _ _ (one _ _ _ h))

set_option maxRecDepth 10000 in
set_option maxHeartbeats 25600000 in
theorem fnFewest_any (v : Value) (nb : Nat) (w : World) (h : BytesIn w.heap.size w v nb) :
    Calls Try.prog 5 #[v] w fun e w' => e = .returned (.bool true) ∧ Below w.heap.size w w' := by
  have HB := hide h
  obtain ⟨vao, vcap, rfl, hl, hm, _⟩ := h
  unfold maxLen at hm
  have HBIG := hide (big_any vao nb vcap w)
  cases hbig : decide ((1048576 : Int) < (nb : Int)) with
  | true =>
    rw [hbig] at HBIG
    go_enter Try.func5, Try.ntmps5
    go_wp2_with fail
    refine (unhide HBIG).mono ?_
    rintro e w' ⟨rfl, rfl⟩
    go_wp2
    go_ret
    exact ⟨rfl, Below.refl _ _⟩
  | false =>
  rw [hbig] at HBIG
  have hnb : nb ≤ 1048576 := by rw [decide_eq_false_iff_not] at hbig; omega
  have HAT := hide fun k hk => at_fix _ nb k w (unhide HB) hnb hk
  have QD := hide (DrawFewest_any _ nb w (unhide HB) hnb)
  clear hbig HB hl hm
  go_enter Try.func5, Try.ntmps5
  go_wp2_with fail
  refine (unhide HBIG).mono ?_
  rintro e w' ⟨rfl, rfl⟩
  clear HBIG
  go_wp2_with fail
  refine (unhide QD).mono ?_
  intro e w1 hans
  obtain ⟨a1, m1, c1, H, a2, m2, c2, BX, rfl, hH, hX, hb1⟩ := fewd_out hans
  have hm1 : m1 = H.length := by
    obtain ⟨_, _, e, _⟩ := hH
    simp only [Value.slice.injEq] at e
    exact e.2.1
  have hm2 : m2 = BX.length := by
    obtain ⟨_, _, e, _⟩ := hX
    simp only [Value.slice.injEq] at e
    exact e.2.1
  subst hm1
  subst hm2
  have HW := hide hb1
  have HRH := hide hH
  have HRX := hide hX
  have QI := hide (implFewest_any _ _ H BX w1 hH hX)
  have QS := hide fun V h1 h2 => specFewest_any (.slice a1 H.length c1) (.slice a2 BX.length c2) H BX V h1 h2
  have EF : Hid ((fewV H BX).2 = true → GoodW H BX (fewV H BX).1 ∧ ∀ O : List StowT, O.length = BX.length → (∀ i, i < BX.length → sbx (stO O i) = BX.getD i default) → wellB H O = true → over (fewV H BX).1 ≤ over O) := few_found
  have EL := fewV_len H BX
  clear hans hH hX hb1 QD
  generalize fewV H BX = FV at *
  obtain ⟨P, ok⟩ := FV
  dsimp only at QI QS EF EL
  go_wp2_with fail
  refine (unhide QI).mono ?_
  rintro e w2 ⟨pa, pn, pc, rfl, hOR, hb⟩
  have hpn : pn = P.length := by
    obtain ⟨_, _, e, _⟩ := hOR
    simp only [Value.slice.injEq] at e
    exact e.2.1
  subst hpn
  have HP := hide hOR.intsIn
  replace HW := hide (Below.step (unhide HW) hb)
  replace HRH := hide ((unhide HRH).below hb)
  replace HRX := hide ((unhide HRX).below hb)
  clear hOR hb QI
  go_wp2_with fail
  refine (unhide QS _ (unhide HRH) (unhide HRX)).mono ?_
  rintro e w3 ⟨qa, qn, qc, rfl, _, hb⟩
  replace HW := hide (Below.step (unhide HW) hb)
  replace HRH := hide ((unhide HRH).below hb)
  replace HRX := hide ((unhide HRX).below hb)
  replace HP := hide ((unhide HP).below hb)
  clear hb QS
  cases ok with
  | false =>
    clear EF
    go_wp2
    go_ret
    exact ⟨rfl, unhide HW⟩
  | true =>
  obtain ⟨⟨hPl, hPb, hPw⟩, hmin⟩ := unhide EF rfl
  have HPB := hide hPb
  have HMIN := hide hmin
  have HPL := hide hPl
  have QW := hide (implStowCode_any (.slice a1 H.length c1) (.slice pa P.length pc) H P w3 (unhide HRH) (unhide HP))
  have EW : Hid ((stowC H P).1 = 0) := by
    have h := hPw
    simp only [wellB, decide_eq_true_eq] at h
    exact h
  have dl : ((P.length : Int) == (BX.length : Int)) = true := by simp; omega
  have dl2 : ((P.length : Int) != (BX.length : Int)) = false := by simp; omega
  clear hPb hmin hPw hPl EF
  generalize stowC H P = C at *
  obtain ⟨cd, ck⟩ := C
  dsimp only at QW EW
  have hcd := unhide EW
  subst hcd
  clear EW
  go_wp2_with fail
  refine (unhide QW).mono ?_
  rintro e w4 ⟨rfl, hb⟩
  replace HW := hide (Below.step (unhide HW) hb)
  replace HRH := hide ((unhide HRH).below hb)
  replace HRX := hide ((unhide HRX).below hb)
  replace HP := hide ((unhide HP).below hb)
  clear hb QW
  go_wp2
  obtain ⟨_, _, eP, hpl, hpm, hpc⟩ := unhide HP
  obtain ⟨_, _, eX, hxl, hxm, hxc⟩ := unhide HRX
  simp only [Value.slice.injEq, true_and] at eP eX
  obtain ⟨rfl, rfl⟩ := eP
  obtain ⟨rfl, rfl⟩ := eX
  unfold maxLen at hpm hxm
  have HPC := hide hpc
  have HXC := hide hxc
  have hPX : P.length ≤ BX.length := Nat.le_of_eq (unhide HPL)
  clear hpc hxc dl dl2
  go_loopg [11] P.length (fun g iv wr => ∃ i : Nat, i ≤ P.length ∧ g = P.length - i ∧ iv = .int .i64 i ∧ Hid (Below w4.heap.size w4 wr))
  case atStart => exact ⟨0, Nat.zero_le _, rfl, rfl, Below.refl _ _⟩
  case round =>
    obtain ⟨i, hi, rfl, rfl, HV⟩ := hrel
    by_cases hin : i < P.length
    · have hii : (i : Int) < P.length := by omega
      have hiX : i < BX.length := by omega
      have hiXi : (i : Int) < BX.length := by omega
      obtain ⟨b, o, n, wt, cl, co, fr, to, sx, sy, sz, rfl, hc0, hc1, hc2, hc3, hc4, hc5, _, _, _, EX⟩ := recStowAt (unhide HPC) hin
      obtain ⟨b', o', n', wt', cl', co', fr', to', rfl, hd0, hd1, hd2, hd3, hd4, hd5, EX'⟩ := recBoxAt (unhide HXC) hiX
      have hq := unhide HPB i hiX
      unfold stO at hq
      rw [unhide EX, unhide EX'] at hq
      simp only [sbx, Prod.mk.injEq] at hq
      obtain ⟨rfl, rfl, rfl, rfl, rfl, rfl⟩ := hq
      have g0 := ((unhide HV).cell (lt_of_cell hc0)).trans hc0
      have e0 := ((unhide HV).cell (lt_of_cell hd0)).trans hd0
      have g1 := ((unhide HV).cell (lt_of_cell hc1)).trans hc1
      have e1 := ((unhide HV).cell (lt_of_cell hd1)).trans hd1
      have g2 := ((unhide HV).cell (lt_of_cell hc2)).trans hc2
      have e2 := ((unhide HV).cell (lt_of_cell hd2)).trans hd2
      have g3 := ((unhide HV).cell (lt_of_cell hc3)).trans hc3
      have e3 := ((unhide HV).cell (lt_of_cell hd3)).trans hd3
      have g4 := ((unhide HV).cell (lt_of_cell hc4)).trans hc4
      have e4 := ((unhide HV).cell (lt_of_cell hd4)).trans hd4
      have g5 := ((unhide HV).cell (lt_of_cell hc5)).trans hc5
      have e5 := ((unhide HV).cell (lt_of_cell hd5)).trans hd5
      clear hc0 hc1 hc2 hc3 hc4 hc5 hd0 hd1 hd2 hd3 hd4 hd5 EX EX'
      go_wp2
      go_quiet (fail)
      go_wp2
      go_roundg (P.length - (i + 1))
      case measure => omega
      case rel => exact ⟨i + 1, by omega, rfl, by go_num, Below.step (unhide HV) ⟨rfl, rfl, rfl, Nat.le_refl _, fun _ _ => rfl⟩⟩
    · have hii : ¬ (i : Int) < P.length := by omega
      have HW5 := hide (Below.step (unhide HW) (unhide HV))
      replace HRH := hide ((unhide HRH).below (unhide HV))
      replace HP := hide ((unhide HP).below (unhide HV))
      clear HV HXC HPC HRX HW
      have HN1 := hide (rowB_new 44 9 eStow wr wr.heap.size (Nat.le_refl _))
      have hA1 := Below.alloc1 wr (.cells #[] 44)
      have HP1 := hide ((unhide HP).below hA1)
      have hws := hA1.size
      clear hi hin
      go_wp2_with (at_builtin; go_must (refine wpList_appAll tyStow _ rfl _ _ rfl wr.heap.size (some ⟨wr.heap.size, 0, none⟩) 0 0 [] rfl (unhide HN1) hws (by omega) pa P.length pc P rfl (unhide HP1) (by omega) ?_); intro ra rc w6 hL hK; rw [Nat.zero_add] at hL; have HL2 : Hid (RowB 44 9 eStow wr.heap.size w6 ra P.length rc P) := hL; have HB6 := hide (onRow_below (Below.alloc1 wr (.cells #[] 44)) (unhide HN1) (by decide) hws hK); clear hL hK)
      have HO6 : Hid (OwnR 9 eStow wr.heap.size w6 (.slice ra P.length rc) P) := by
        obtain ⟨ao', cap', e', q1, q2, q3⟩ := (unhide HL2).uptoR (by decide)
        exact ⟨ao', cap', e', q1, q2, fun hne => by obtain ⟨g, r1, r2, _, r4⟩ := q3 hne; exact ⟨g, r1, r2, r4⟩⟩
      clear HN1 hA1 HP1 hws HL2 hii
      generalize wr = w5 at *
      go_loopg [13] (P.length - 1) (fun g iv wr => ∃ (i : Nat) (O : List StowT), 1 ≤ i ∧ g = P.length - i ∧ iv = .int .i64 i ∧ Hid (O.length = P.length) ∧ Hid (∀ q, sbx (stO O q) = sbx (stO P q)) ∧ Hid (OwnR 9 eStow w5.heap.size wr (.slice ra P.length rc) O) ∧ Hid (Below w5.heap.size w5 wr))
      case atStart => exact ⟨1, P, Nat.le_refl _, rfl, rfl, rfl, fun _ => rfl, unhide HO6, unhide HB6⟩
      case round =>
        clear HO6 HB6
        obtain ⟨i, O, hi1, rfl, rfl, HOL, HOB, HOR, HV⟩ := hrel
        by_cases hin : i < P.length
        · have hii : (i : Int) < P.length := by omega
          obtain ⟨y, hy0, hy1, hyc⟩ := unhide HAT i (by omega)
          have HY := hide (hyc wr (Below.step (unhide HW5) (unhide HV)))
          have hiO : i < O.length := by rw [unhide HOL]; exact hin
          obtain ⟨g, hra, hgM, hOV, hcap⟩ : ∃ g, ra = some ⟨g, 0, none⟩ ∧ w5.heap.size ≤ g ∧ OwnV wr g (recCells 9 eStow O) ∧ P.length ≤ rc ∧ rc ≤ maxLen := by
            obtain ⟨ao', cap', e', q1, q2, q3⟩ := unhide HOR
            simp only [Value.slice.injEq] at e'
            obtain ⟨g, r1, r2, r3⟩ := q3 (fun h => by rw [h] at hiO; simp at hiO)
            exact ⟨g, e'.1.trans r1, r2, r3, by rw [e'.2.2, ← unhide HOL]; exact q1, by rw [e'.2.2]; exact q2⟩
          obtain ⟨hcap1, hcap2⟩ := hcap
          have HCM := hide hcap2
          unfold maxLen at hcap2
          subst hra
          have hk0 : 0 ≤ y.tmod ((i : Int) + 1) := Int.tmod_nonneg _ hy0
          have hk1 : y.tmod ((i : Int) + 1) < (i : Int) + 1 := Int.tmod_lt_of_pos _ (by omega)
          have hkm : y % ((i : Int) + 1) = y.tmod ((i : Int) + 1) := (Int.tmod_eq_emod_of_nonneg hy0).symm
          obtain ⟨k, ek⟩ : ∃ k : Nat, y.tmod ((i : Int) + 1) = (k : Int) := ⟨(y.tmod ((i : Int) + 1)).toNat, by omega⟩
          rw [ek] at hk0 hk1 hkm
          have hkO : k < O.length := by omega
          have hkP : k < P.length := by omega
          have hkPi : (k : Int) < P.length := by omega
          have hne0 : ¬ (i : Int) + 1 = 0 := by omega
          have qi : IntKind.i64.wrap ((i : Int) + 1) = (i : Int) + 1 := by rw [IntKind.wrap_i64]; omega
          have qk : IntKind.i64.wrap (k : Int) = (k : Int) := by rw [IntKind.wrap_i64]; omega
          obtain ⟨xi, yi, zi, eI⟩ : ∃ a b c, ssp (stO O i) = (a, b, c) := ⟨_, _, _, rfl⟩
          obtain ⟨xk, yk, zk, eK⟩ : ∃ a b c, ssp (stO O k) = (a, b, c) := ⟨_, _, _, rfl⟩
          have hkO2 : k < (putSp O i (xk, yk, zk)).length := by rw [putSp_len]; exact hkO
          have B0 : OwnV (((wr.setCell ⟨g, i * 9 + 6, none⟩ (.int .i64 xk)).setCell ⟨g, i * 9 + 6 + 1, none⟩ (.int .i64 yk)).setCell ⟨g, i * 9 + 6 + 2, none⟩ (.int .i64 zk)) g (recCells 9 eStow (putSp O i (xk, yk, zk))) := ownV_spot hOV hiO xk yk zk
          have D0 := OwnV.alloc B0 (.cells #[.int .i64 xi, .int .i64 yi, .int .i64 zi] 29)
          have C0 : OwnV (World.alloc ((((((wr.setCell ⟨g, i * 9 + 6, none⟩ (.int .i64 xk)).setCell ⟨g, i * 9 + 6 + 1, none⟩ (.int .i64 yk)).setCell ⟨g, i * 9 + 6 + 2, none⟩ (.int .i64 zk)).setCell ⟨g, k * 9 + 6, none⟩ (.int .i64 xi)).setCell ⟨g, k * 9 + 6 + 1, none⟩ (.int .i64 yi)).setCell ⟨g, k * 9 + 6 + 2, none⟩ (.int .i64 zi)) (.cells #[.int .i64 xi, .int .i64 yi, .int .i64 zi] 29)) g (recCells 9 eStow (putSp (putSp O i (xk, yk, zk)) k (xi, yi, zi))) := OwnV.alloc (ownV_spot B0 hkO2 xi yi zi) _
          obtain ⟨r6, r7, r8, eR⟩ : ∃ a b c, ssp (stO (putSp O i (xk, yk, zk)) k) = (a, b, c) := ⟨_, _, _, rfl⟩
          have d6 : (World.alloc (((wr.setCell ⟨g, i * 9 + 6, none⟩ (.int .i64 xk)).setCell ⟨g, i * 9 + 6 + 1, none⟩ (.int .i64 yk)).setCell ⟨g, i * 9 + 6 + 2, none⟩ (.int .i64 zk)) (.cells #[.int .i64 xi, .int .i64 yi, .int .i64 zi] 29)).cell? ⟨g, k * 9 + 6, none⟩ = some (.int .i64 (ssp (stO (putSp O i (xk, yk, zk)) k)).1) := D0.cell (recCells_get hkO2 (by omega))
          have d7 : (World.alloc (((wr.setCell ⟨g, i * 9 + 6, none⟩ (.int .i64 xk)).setCell ⟨g, i * 9 + 6 + 1, none⟩ (.int .i64 yk)).setCell ⟨g, i * 9 + 6 + 2, none⟩ (.int .i64 zk)) (.cells #[.int .i64 xi, .int .i64 yi, .int .i64 zi] 29)).cell? ⟨g, k * 9 + 6 + 1, none⟩ = some (.int .i64 (ssp (stO (putSp O i (xk, yk, zk)) k)).2.1) := D0.cell (recCells_get (j := 7) hkO2 (by omega))
          have d8 : (World.alloc (((wr.setCell ⟨g, i * 9 + 6, none⟩ (.int .i64 xk)).setCell ⟨g, i * 9 + 6 + 1, none⟩ (.int .i64 yk)).setCell ⟨g, i * 9 + 6 + 2, none⟩ (.int .i64 zk)) (.cells #[.int .i64 xi, .int .i64 yi, .int .i64 zi] 29)).cell? ⟨g, k * 9 + 6 + 2, none⟩ = some (.int .i64 (ssp (stO (putSp O i (xk, yk, zk)) k)).2.2) := D0.cell (recCells_get (j := 8) hkO2 (by omega))
          rw [eR] at d6 d7 d8
          have df6 := D0.frozen (k * 9 + 6)
          have df7 := D0.frozen (k * 9 + 6 + 1)
          have df8 := D0.frozen (k * 9 + 6 + 2)
          have ai6 : wr.cell? ⟨g, i * 9 + 6, none⟩ = some (.int .i64 (ssp (stO O i)).1) := hOV.cell (recCells_get (j := 6) hiO (by omega))
          rw [eI] at ai6
          have fi6 := hOV.frozen (i * 9 + 6)
          have ak6 : wr.cell? ⟨g, k * 9 + 6, none⟩ = some (.int .i64 (ssp (stO O k)).1) := hOV.cell (recCells_get (j := 6) hkO (by omega))
          rw [eK] at ak6
          have fk6 := hOV.frozen (k * 9 + 6)
          have ai7 : wr.cell? ⟨g, i * 9 + 6 + 1, none⟩ = some (.int .i64 (ssp (stO O i)).2.1) := hOV.cell (recCells_get (j := 7) hiO (by omega))
          rw [eI] at ai7
          have fi7 := hOV.frozen (i * 9 + 6 + 1)
          have ak7 : wr.cell? ⟨g, k * 9 + 6 + 1, none⟩ = some (.int .i64 (ssp (stO O k)).2.1) := hOV.cell (recCells_get (j := 7) hkO (by omega))
          rw [eK] at ak7
          have fk7 := hOV.frozen (k * 9 + 6 + 1)
          have ai8 : wr.cell? ⟨g, i * 9 + 6 + 2, none⟩ = some (.int .i64 (ssp (stO O i)).2.2) := hOV.cell (recCells_get (j := 8) hiO (by omega))
          rw [eI] at ai8
          have fi8 := hOV.frozen (i * 9 + 6 + 2)
          have ak8 : wr.cell? ⟨g, k * 9 + 6 + 2, none⟩ = some (.int .i64 (ssp (stO O k)).2.2) := hOV.cell (recCells_get (j := 8) hkO (by omega))
          rw [eK] at ak8
          have fk8 := hOV.frozen (k * 9 + 6 + 2)
          have HC0 := hide C0
          have hgl := hOV.lt
          have HV2 : Hid (Below w5.heap.size w5 (World.alloc ((((((wr.setCell ⟨g, i * 9 + 6, none⟩ (.int .i64 xk)).setCell ⟨g, i * 9 + 6 + 1, none⟩ (.int .i64 yk)).setCell ⟨g, i * 9 + 6 + 2, none⟩ (.int .i64 zk)).setCell ⟨g, k * 9 + 6, none⟩ (.int .i64 xi)).setCell ⟨g, k * 9 + 6 + 1, none⟩ (.int .i64 yi)).setCell ⟨g, k * 9 + 6 + 2, none⟩ (.int .i64 zi)) (.cells #[.int .i64 xi, .int .i64 yi, .int .i64 zi] 29))) := Below.step (belowSpot (belowSpot (unhide HV) hgM i xk yk zk) hgM k xi yi zi) (Below.alloc1 _ _)
          have HOL2 : Hid ((putSp (putSp O i (xk, yk, zk)) k (xi, yi, zi)).length = P.length) := by show _ = _; rw [putSp_len, putSp_len]; exact unhide HOL
          have HOB2 : Hid (∀ q, sbx (stO (putSp (putSp O i (xk, yk, zk)) k (xi, yi, zi)) q) = sbx (stO P q)) := fun q => by rw [putSp_box _ hkO2, putSp_box _ hiO]; exact unhide HOB q
          have hgne : ¬ g = wr.heap.size := by omega
          have hgne2 : ¬ wr.heap.size = g := by omega
          have EQ : Hid (k = i → xi = xk ∧ yi = yk ∧ zi = zk) := fun e => by
            subst e
            rw [eI] at eK
            simp only [Prod.mk.injEq] at eK
            exact eK
          clear B0 C0 D0 hOV eI eK eR HOR hyc d6 d7 d8 df6 df7 df8 r6 r7 r8
          by_cases hki : k = i
          · have hxyz := unhide EQ hki
            obtain ⟨rfl, rfl, rfl⟩ := hxyz
            subst hki
            clear EQ
            go_wp2_with fail
            refine (unhide HY).mono ?_
            rintro e W ⟨rfl, rfl⟩
            clear HY
            go_wp2
            go_roundg (P.length - (k + 1))
            case measure => omega
            case rel => exact ⟨k + 1, _, by omega, rfl, by go_num, unhide HOL2, unhide HOB2, ⟨some ⟨g, 0, none⟩, rc, by rw [unhide HOL2], by rw [unhide HOL2]; exact hcap1, unhide HCM, fun _ => ⟨g, rfl, hgM, unhide HC0⟩⟩, unhide HV2⟩
          · have hki2 : ¬ i = k := fun e => hki e.symm
            have n1 : ¬ i * 9 = k * 9 + 1 := by omega
            have n2 : ¬ i * 9 = k * 9 + 2 := by omega
            have n3 : ¬ i * 9 + 1 = k * 9 := by omega
            have n4 : ¬ i * 9 + 2 = k * 9 := by omega
            have n5 : ¬ k * 9 = i * 9 + 1 := by omega
            have n6 : ¬ k * 9 = i * 9 + 2 := by omega
            have n7 : ¬ k * 9 + 1 = i * 9 := by omega
            have n8 : ¬ k * 9 + 2 = i * 9 := by omega
            go_wp2_with fail
            refine (unhide HY).mono ?_
            rintro e W ⟨rfl, rfl⟩
            clear HY
            go_wp2
            go_roundg (P.length - (i + 1))
            case measure => omega
            case rel => exact ⟨i + 1, _, by omega, rfl, by go_num, unhide HOL2, unhide HOB2, ⟨some ⟨g, 0, none⟩, rc, by rw [unhide HOL2], by rw [unhide HOL2]; exact hcap1, unhide HCM, fun _ => ⟨g, rfl, hgM, unhide HC0⟩⟩, unhide HV2⟩
        · have hii : ¬ (i : Int) < P.length := by omega
          replace HRH := hide ((unhide HRH).below (unhide HV))
          replace HP := hide ((unhide HP).below (unhide HV))
          replace HW5 := hide (Below.step (unhide HW5) (unhide HV))
          have HOI := hide ((unhide HOR).intsIn)
          have QW2 := hide (implStowCode_any (.slice a1 H.length c1) (.slice ra P.length rc) H O wr (unhide HRH) (unhide HOI))
          have EWO : Hid ((stowC H O).1 = 0 → over P ≤ over O) := fun h => unhide HMIN O ((unhide HOL).trans (unhide HPL)) (fun q hq => (unhide HOB q).trans (unhide HPB q hq)) (by simp only [wellB, decide_eq_true_eq]; exact h)
          have QO := hide fun V (h : RStow V (.slice ra P.length rc) O) => lawOvers_any _ O V h (by rw [unhide HOL]; omega)
          have QP := hide fun V (h : RStow V (.slice pa P.length pc) P) => lawOvers_any _ P V h (by omega)
          clear HOR HV HAT HMIN HPB HRH HOB HOL
          generalize stowC H O = C2 at *
          obtain ⟨cc, kk⟩ := C2
          dsimp only at QW2 EWO
          generalize over P = oP at *
          generalize over O = oO at *
          go_wp2_with fail
          refine (unhide QW2).mono ?_
          rintro e W ⟨rfl, hb⟩
          replace HP := hide ((unhide HP).below hb)
          replace HOI := hide ((unhide HOI).below hb)
          replace HW5 := hide (Below.step (unhide HW5) hb)
          clear hb QW2
          by_cases hc : cc = 0
          case neg =>
            have d1 : (cc == 0) = false := by simp [hc]
            have d2 : (cc != 0) = true := by simp [hc]
            clear hc EWO QO QP
            go_wp2
            go_ret
            exact ⟨rfl, unhide HW5⟩
          have hle := unhide EWO hc
          have hlei : (oP : Int) ≤ oO := by omega
          subst hc
          clear EWO
          go_wp2_with fail
          refine (unhide QO _ (unhide HOI)).mono ?_
          rintro e W2 ⟨rfl, hb⟩
          replace HP := hide ((unhide HP).below hb)
          replace HW5 := hide (Below.step (unhide HW5) hb)
          clear hb QO
          go_wp2_with fail
          refine (unhide QP _ (unhide HP)).mono ?_
          rintro e W3 ⟨rfl, hb⟩
          replace HW5 := hide (Below.step (unhide HW5) hb)
          clear hb QP
          go_wp2
          go_ret
          exact ⟨by simp, unhide HW5⟩

end

end Go.Proofs.Ytdkfleodgdpckaa
