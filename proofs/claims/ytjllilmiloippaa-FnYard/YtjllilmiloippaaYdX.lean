/- FnYard: the program's RunYard, the draws, the mathematics. Laid together by wip/layyd.py. -/
import Derived.Test.YtjllilmiloippaaCpInt
import Derived.Test.YtjllilmiloippaaSgA
import Derived.Test.YtjllilmiloippaaKept
import Derived.Laws.BitsAllLaws
import Derived.Deep.RegionHeld3
import Derived.Test.YtjllilmiloippaaYdX1
import Derived.Test.YtjllilmiloippaaRYardOp
import Derived.Test.YtjllilmiloippaaOwnInts
import Derived.Test.YtjllilmiloippaaYaS
import Derived.Test.YtjllilmiloippaaDrE
import Derived.Test.YtjllilmiloippaaYaU2
import Derived.Deep.RegionWith
import Derived.Deep.DeepCutAuto
import Derived.Deep.Cut
import Derived.BigRegion
import Derived.Test.YtjllilmiloippaaRowK
import Derived.Test.YtjllilmiloippaaAtFix
namespace Go.Proofs.Ytjllilmiloippaa
open Go.RowKit

theorem Kept.drewL {T : Nat → Prop} {w w' : World} (hk : Kept T w.drew w') : Kept T w w' := ⟨hk.os, hk.tape, hk.output, hk.size, hk.block⟩

set_option maxRecDepth 10000 in
set_option maxHeartbeats 1600000 in
theorem mul64_any (n : Nat) (w : World) (hn : n < 4294967296) :
    Calls Try.prog 113 #[.int .u64 1, .int .u64 n] w fun e w' => e = .returned (.tuple #[.int .u64 0, .int .u64 n]) ∧ w' = w := by
  have a1 : bits .and .u64 1 4294967295 = 1 := by decide
  have a2 : bits .and .u64 (n : Int) 4294967295 = (n : Int) := by
    rw [show ((4294967295 : Int)) = ((4294967295 : Nat) : Int) from rfl, u64_and_nat n 4294967295 (by omega) (by omega), nat_mask32]
    congr 1
    exact Nat.mod_eq_of_lt hn
  have a3 : bits .and .u64 0 4294967295 = 0 := by decide
  have d1 : (n : Int) / 4294967296 = 0 := by omega
  have w1 : IntKind.u64.wrap (n : Int) = (n : Int) := by rw [IntKind.wrap_u64]; omega
  go_enter Try.func113, Try.ntmps113
  go_wp2
  refine bodyPost_ret (v := .tuple #[.int .u64 0, .int .u64 n]) (by simp [results, Try.results113, go_sem, *]) rfl ⟨rfl, rfl⟩

set_option maxRecDepth 10000 in
set_option maxHeartbeats 1600000 in
theorem mul_any (n : Nat) (w : World) (hn : n < 4294967296) :
    Calls Try.prog 89 #[.int .u64 1, .int .u64 n] w fun e w' => e = .returned (.tuple #[.int .u64 0, .int .u64 n]) ∧ w' = w := by
  have HM := hide (mul64_any n w hn)
  go_enter Try.func89, Try.ntmps89
  go_wp2_with fail
  refine (unhide HM).mono ?_
  rintro e w' ⟨rfl, h9⟩
  have h8 := h9.symm
  subst h8
  clear h9
  go_wp2
  refine bodyPost_ret (v := .tuple #[.int .u64 0, .int .u64 n]) (by simp [results, Try.results89, go_sem]) rfl ⟨rfl, rfl⟩

/-- A piece of a row is copied behind itself. -/
theorem run_copy_self {P : Program} {w : World} (dT elem : TypeId) (hu : P.underlying dT = some (.slice elem)) (hsz : (P.info? elem).map (·.size) = some 1)
    (g d e k dCap sCap : Nat) (M : List Int) (hO : OwnV w g (ints M)) (hk : k = Nat.min d e) (hd : d + e ≤ M.length) :
    ∃ w', (∀ ty, (Builtin.copy_ #[dT, dT] ty #[.slice (some ⟨g, d, none⟩) e dCap, .slice (some ⟨g, 0, none⟩) d sCap]).run P w = .ok (goInt k) w') ∧ OwnV w' g (ints (M.take d ++ M.take k ++ M.drop (d + k))) ∧ Kept (fun b => b = g) w w' := by
  obtain ⟨c, t, hg, hc⟩ := hO
  have hkd : k ≤ d := by rw [hk]; exact Nat.min_le_left _ _
  have hke : k ≤ e := by rw [hk]; exact Nat.min_le_right _ _
  have hsize : M.length ≤ c.size := by
    rcases Nat.eq_zero_or_pos M.length with h0 | h0
    · omega
    · have h1 := hc (M.length - 1) (by rw [ints_length]; omega)
      rw [ints_get M (by omega)] at h1
      have := (Array.getElem?_eq_some_iff.1 h1).1
      omega
  have htl : (M.take k).length = k := by rw [List.length_take]; omega
  have hl := run_loadCells_list (P := P) w ⟨g, 0, none⟩ (ints (M.take k)) (fun j v hj => by
    have hjk : j < k := by
      rcases Nat.lt_or_ge j k with h | h
      · exact h
      · rw [List.getElem?_eq_none (by rw [ints_length, htl]; exact h)] at hj; cases hj
    rw [show (⟨g, 0, none⟩ : Addr).add j = ⟨g, 0 + j, none⟩ from by simp [Addr.add]; exact fun h => h.symm, Nat.zero_add]
    have h1 := hc j (by rw [ints_length]; omega)
    rw [ints_get M (by omega)] at h1
    rw [ints_get (M.take k) (by rw [htl]; exact hjk)] at hj
    simp [World.cell?, hg, h1, ← hj, List.getD, hjk])
  have hst := run_storeCells_at P g d t (ints (M.take k)) 0 c w hg (by rw [ints_length, htl]; omega) (fun v hv => by obtain ⟨x, _, rfl⟩ := List.mem_map.1 hv; rfl)
  simp only [Nat.add_zero] at hst
  refine ⟨w.setRow g (c.toList.take d ++ ints (M.take k) ++ c.toList.drop (d + (ints (M.take k)).length)).toArray, fun ty => ?_, ?_, ⟨rfl, rfl, rfl, by simp [World.setRow], fun b _ hb => setRow_other w g b _ (fun e => hb e)⟩⟩
  · cases hq : P.info? elem with
    | none => simp [hq] at hsz
    | some i =>
      have hi : i.size = 1 := by simpa [hq] using hsz
      rw [ints_length, htl] at hl
      simp [Builtin.copy_, run_underlying hu, Builtin.lenOf, Builtin.firstCells, sizeOf, typeInfo, hq, hi, ← hk, hl, hst]
  · refine ⟨_, t, setRow_heap w g _ _ t _ hg, fun i hi => ?_⟩
    rw [ints_length] at hi
    have hlen : (M.take d ++ M.take k ++ M.drop (d + k)).length = M.length := by simp; omega
    rw [hlen] at hi
    have hcd : ∀ j, j < M.length → c.toList[j]? = some (.int .i64 (M.getD j 0)) := fun j hj => by
      rw [Array.getElem?_toList, hc j (by rw [ints_length]; exact hj), ints_get M hj]
    have e1 : (ints (M.take k)).length = k := by rw [ints_length, htl]
    have e2 : (c.toList.take d).length = d := by rw [List.length_take, Array.length_toList]; omega
    have e3 : (M.take d).length = d := by rw [List.length_take]; omega
    rw [ints_get _ (by rw [hlen]; exact hi)]
    simp only [List.getElem?_toArray]
    rcases Nat.lt_or_ge i d with h1 | h1
    · rw [List.append_assoc, List.getElem?_append_left (by omega), List.getElem?_take, if_pos h1, hcd i hi]
      congr 2
      simp [List.getD, List.getElem?_append_left (show i < (M.take d).length by omega), h1]
    · rcases Nat.lt_or_ge i (d + k) with h2 | h2
      · rw [List.getElem?_append_left (by rw [List.length_append, e1, e2]; omega), List.getElem?_append_right (by omega), e2, ints_get _ (by omega)]
        congr 2
        simp only [List.getD]
        rw [List.getElem?_append_left (by rw [List.length_append, e3, htl]; omega), List.getElem?_append_right (by omega), e3]
      · rw [List.getElem?_append_right (by rw [List.length_append, e1, e2]; omega), List.length_append, e1, e2, List.getElem?_drop, show d + k + (i - (d + k)) = i by omega, hcd i hi]
        congr 2
        simp only [List.getD]
        rw [List.getElem?_append_right (by rw [List.length_append, e3, htl]; omega), List.length_append, e3, htl, List.getElem?_drop, show d + k + (i - (d + k)) = i by omega]

/-- d of n numbers are told. -/
def upTo (x : Int) (n d : Nat) : List Int := List.replicate d x ++ List.replicate (n - d) 0
theorem upTo_len (x : Int) {n d : Nat} (h : d ≤ n) : (upTo x n d).length = n := by simp [upTo]; omega
theorem upTo_more (x : Int) {n d k : Nat} (hk : k ≤ d) (h : d + k ≤ n) : (upTo x n d).take d ++ (upTo x n d).take k ++ (upTo x n d).drop (d + k) = upTo x n (d + k) := by
  have e1 : (upTo x n d).take d = List.replicate d x := by unfold upTo; rw [List.take_append_of_le_length (by simp)]; simp
  have e2 : (upTo x n d).take k = List.replicate k x := by unfold upTo; rw [List.take_append_of_le_length (by simp; exact hk), List.take_replicate, Nat.min_eq_left hk]
  have e3 : (upTo x n d).drop (d + k) = List.replicate (n - (d + k)) 0 := by
    unfold upTo
    rw [List.drop_append, List.drop_replicate, List.drop_replicate, List.length_replicate, show d - (d + k) = 0 by omega, show n - d - (d + k - d) = n - (d + k) by omega]
    simp
  rw [e1, e2, e3, List.replicate_append_replicate]
  rfl
theorem upTo_all (x : Int) (n : Nat) : upTo x n n = List.replicate n x := by simp [upTo]
theorem upTo_zero (x : Int) (n : Nat) : upTo x n 0 = List.replicate n 0 := by simp [upTo]

theorem madeInts (n : Nat) : (madeCells #[Value.int .i64 0] n).toList = ints (List.replicate n 0) := by
  simp [madeCells, ints]
  apply List.ext_getElem
  · simp
  · intro i h1 h2
    simp [Nat.mod_one]

theorem run_copy_first {P : Program} {w : World} (dT elem : TypeId) (hu : P.underlying dT = some (.slice elem)) (hsz : (P.info? elem).map (·.size) = some 1)
    (g n dCap sCap : Nat) (ad : Addr) (x : Int) (hn : 0 < n) (hO : OwnV w g (ints (upTo x n 0))) (hx : w.cell? ad = some (.int .i64 x)) :
    ∃ w', (∀ ty, (Builtin.copy_ #[dT, dT] ty #[.slice (some ⟨g, 0, none⟩) n dCap, .slice (some ad) 1 sCap]).run P w = .ok (goInt 1) w') ∧ OwnV w' g (ints (upTo x n 1)) ∧ Kept (fun b => b = g) w w' := by
  have hO' := hO
  obtain ⟨c, t, hg, hc⟩ := hO
  have hul := upTo_len x (n := n) (d := 0) (by omega)
  have h0 := hc 0 (by rw [ints_length, hul]; exact hn)
  rw [ints_get _ (by rw [hul]; exact hn)] at h0
  have hsize : 0 < c.size := (Array.getElem?_eq_some_iff.1 h0).1
  have hl := run_loadCells_list (P := P) w ad [.int .i64 x] (fun j v hj => by
    match j, hj with
    | 0, hj => simp at hj; rw [← hj]; simpa [Addr.add] using hx
    | j + 1, hj => simp at hj)
  have hst := run_storeCells_at P g 0 t [.int .i64 x] 0 c w hg (by simp; omega) (fun v hv => by simp at hv; rw [hv]; rfl)
  have hset : (ints (upTo x n 0)).set 0 (.int .i64 x) = ints (upTo x n 1) := by
    rw [ints_set]
    congr 1
    obtain ⟨m, rfl⟩ : ∃ m, n = m + 1 := ⟨n - 1, by omega⟩
    simp [upTo, List.replicate_succ]
  simp only [Nat.add_zero, List.take_zero, List.nil_append, List.length_cons, List.length_nil, Nat.zero_add] at hst
  refine ⟨w.setRow g ([Value.int .i64 x] ++ c.toList.drop 1).toArray, fun ty => ?_, ?_, ⟨rfl, rfl, rfl, by simp [World.setRow], fun b _ hb => setRow_other w g b _ (fun e => hb e)⟩⟩
  · have hmin : Nat.min 1 n = 1 := Nat.min_eq_left hn
    cases hq : P.info? elem with
    | none => simp [hq] at hsz
    | some i =>
      have hi : i.size = 1 := by simpa [hq] using hsz
      have hl' : (loadCells ad 1).run P w = .ok #[.int .i64 x] w := by simpa using hl
      simp [Builtin.copy_, run_underlying hu, Builtin.lenOf, Builtin.firstCells, sizeOf, typeInfo, hq, hi, hmin, hl', hst]
  · refine ⟨_, t, setRow_heap w g _ _ t _ hg, fun i hi => ?_⟩
    rw [← hset, List.length_set] at hi
    rw [← hset]
    rcases Nat.eq_zero_or_pos i with e | e
    · subst e
      simp [List.getElem?_set_self hi]
    · rw [List.getElem?_set_ne (by omega), ← hc i hi]
      obtain ⟨j, rfl⟩ : ∃ j, i = j + 1 := ⟨i - 1, by omega⟩
      simp

set_option maxRecDepth 10000 in
set_option maxHeartbeats 1600000 in
theorem repeat1_any (b o cr : Nat) (x : Int) (n : Nat) (w : World) (hx : w.cell? ⟨b, o, none⟩ = some (.int .i64 x)) (hn0 : 0 < n) (hn : n ≤ 1048576) :
    Calls Try.prog 54 #[.slice (some ⟨b, o, none⟩) 1 cr, .int .i64 n] w fun e w' => ∃ g, e = .returned (.slice (some ⟨g, 0, none⟩) n n) ∧ w.heap.size ≤ g ∧ OwnV w' g (ints (List.replicate n x)) ∧ Below w.heap.size w w' := by
  have HM := hide (mul_any n w (by omega))
  have hmk := run_make_row' (P := Try.prog) 30 3 (.int .i64 0) 8 Try.underlying30 Try.infoIntCp rfl .i64 .i64 n (by omega) (by omega)
  have hsz : (Try.prog.info? 3).map (·.size) = some 1 := by
    obtain ⟨i0, hi, hzz⟩ := Option.map_eq_some_iff.1 Try.infoIntCp
    simp only [Prod.mk.injEq] at hzz
    rw [hi, Option.map_some, hzz.2.1]
  have hO := ownV_alloc w (madeCells #[Value.int .i64 0] n) 3
  rw [madeInts, ← upTo_zero x n] at hO
  have hA := Below.alloc1 w (.cells (madeCells #[Value.int .i64 0] n) 3)
  obtain ⟨w1, hcp, hO1, hk1⟩ := run_copy_first (P := Try.prog) 30 3 Try.underlying30 hsz w.heap.size n n cr ⟨b, o, none⟩ x hn0 hO (wcell3 hx hA)
  have HB1 := hide (hA.trans (hk1.below (B := w.heap.size) hA.size (fun b e => by omega)))
  have HO1 := hide hO1
  have w1' : IntKind.u64.wrap (n : Int) = (n : Int) := by rw [IntKind.wrap_u64]; omega
  have hn64 : (n : Int) ≤ 9223372036854775807 := by omega
  have HSZ := hide hsz
  obtain ⟨g, eg⟩ : ∃ g, g = w.heap.size := ⟨_, rfl⟩
  have hgw : w.heap.size ≤ g := by omega
  clear hO hA hO1 hk1 hsz
  go_enter Try.func54, Try.ntmps54
  go_wp2_with fail
  refine (unhide HM).mono ?_
  rintro e w' ⟨rfl, h9⟩
  have h8 := h9.symm
  subst h8
  clear h9 HM
  go_wp2
  go_loopg [8] (n - 1) (fun gg dv wr => ∃ d : Nat, 0 < d ∧ d ≤ n ∧ gg = n - d ∧ dv = .int .i64 d ∧ Below w.heap.size w wr ∧ OwnV wr w.heap.size (ints (upTo x n d)))
  case atStart => exact ⟨1, by omega, by omega, rfl, by simp, unhide HB1, unhide HO1⟩
  case round =>
    obtain ⟨d, hd0, hd, rfl, rfl, hW, hO⟩ := hrel
    clear HB1 HO1 hcp hmk
    by_cases hdn : d < n
    · obtain ⟨e, he⟩ : ∃ e, n - d = e := ⟨_, rfl⟩
      obtain ⟨k, hk⟩ : ∃ k, k = Nat.min d e := ⟨_, rfl⟩
      have hkd : k ≤ d := by rw [hk]; exact Nat.min_le_left _ _
      have hke : k ≤ e := by rw [hk]; exact Nat.min_le_right _ _
      have hk0 : 0 < k := by rw [hk]; exact Nat.lt_min.2 ⟨hd0, by omega⟩
      have hne : ¬ n = d := by omega
      have hdk : d + k ≤ n := by omega
      have HWR : Hid (IntKind.i64.wrap ((d : Int) + (k : Int)) = ((d + k : Nat) : Int)) := by show _ = _; rw [IntKind.wrap_i64]; omega
      obtain ⟨w2, hcp, hO2, hk2⟩ := run_copy_self (P := Try.prog) (w := wr.drew) 30 3 Try.underlying30 (unhide HSZ) w.heap.size d e k e n (upTo x n d) hO.drew hk (by rw [upTo_len x hd]; omega)
      rw [upTo_more x hkd (by omega)] at hO2
      have HB2 := hide (hW.trans ((Kept.drewL hk2).below (B := w.heap.size) hW.size (fun b e => by omega)))
      have HO2 := hide hO2
      have HW := hide hW
      have hdi : (d : Int) < n := by omega
      have hdi2 : (d : Int) ≤ n := by omega
      clear hO2 hk2 hW hO hk
      go_wp2
      go_region_held3 (fun _ => True) (trivial) (fail)
      go_wp2
      go_roundg (n - (d + k))
      case measure => omega
      case rel => refine ⟨d + k, by omega, hdk, rfl, ?_, unhide HB2, unhide HO2⟩; rw [unhide HWR]
    · have hdd : d = n := by omega
      subst hdd
      rw [upTo_all] at hO
      have HO := hide hO
      have HW := hide hW
      clear hO hW
      go_wp2
      go_ret
      exact ⟨_, rfl, Nat.le_refl _, unhide HO, unhide HW⟩

end Go.Proofs.Ytjllilmiloippaa

namespace Go.Proofs.Ytjllilmiloippaa
open Go.RowKit

/-- The codes of the first k ops. -/
noncomputable def cdsY (H : Int) (R : List (List Int)) (L : List (Int × Int × Int)) (k : Nat) : List Int := (List.range k).map (cdY H R L)
theorem cds_len (H : Int) (R : List (List Int)) (L : List (Int × Int × Int)) (k : Nat) : (cdsY H R L k).length = k := by simp [cdsY]
theorem cds_succ (H : Int) (R : List (List Int)) (L : List (Int × Int × Int)) (k : Nat) : cdsY H R L (k + 1) = cdsY H R L k ++ [cdY H R L k] := by simp [cdsY, List.range_succ]
/-- .. in a list of n. -/
noncomputable def cdR (H : Int) (R : List (List Int)) (L : List (Int × Int × Int)) (n k : Nat) : List Int := cdsY H R L k ++ List.replicate (n - k) 0
theorem cdR_zero (H : Int) (R : List (List Int)) (L : List (Int × Int × Int)) (n : Nat) : cdR H R L n 0 = List.replicate n 0 := by simp [cdR, cdsY]
theorem cdR_len {H : Int} {R : List (List Int)} {L : List (Int × Int × Int)} {n k : Nat} (h : k ≤ n) : (cdR H R L n k).length = n := by
  rw [cdR, List.length_append, cds_len, List.length_replicate]; omega
theorem cdR_all (H : Int) (R : List (List Int)) (L : List (Int × Int × Int)) (n : Nat) : cdR H R L n n = cdsY H R L n := by simp [cdR]
theorem cdR_set {H : Int} {R : List (List Int)} {L : List (Int × Int × Int)} {n k : Nat} (h : k < n) : (cdR H R L n k).set k (cdY H R L k) = cdR H R L n (k + 1) := by
  unfold cdR
  rw [cds_succ, List.set_append_right _ _ (by rw [cds_len]; exact Nat.le_refl _), cds_len, Nat.sub_self, show n - k = (n - (k + 1)) + 1 by omega, List.replicate_succ, List.set_cons_zero, List.append_assoc]
  rfl
theorem cds_bad {H : Int} {R : List (List Int)} (h : ¬ YOk H R) (L : List (Int × Int × Int)) (k : Nat) : cdsY H R L k = List.replicate k 1 := by
  induction k with
  | zero => rfl
  | succ k ih => rw [cds_succ, ih, cd_bad h, List.replicate_succ']

/-- The yard, the codes, the sum. -/
noncomputable def rnY (H : Int) (R : List (List Int)) (L : List (Int × Int × Int)) : List (List Int) × List Int × Int :=
  if L.length ≤ 200 then ((stY H R L L.length).1, cdsY H R L L.length, (stY H R L L.length).2) else (R, [], 0)
theorem rn_many {H : Int} {R : List (List Int)} {L : List (Int × Int × Int)} (h : ¬ L.length ≤ 200) : rnY H R L = (R, [], 0) := by rw [rnY, if_neg h]
theorem rn_few {H : Int} {R : List (List Int)} {L : List (Int × Int × Int)} (h : L.length ≤ 200) : rnY H R L = ((stY H R L L.length).1, cdsY H R L L.length, (stY H R L L.length).2) := by rw [rnY, if_pos h]
theorem rn_bad {H : Int} {R : List (List Int)} {L : List (Int × Int × Int)} (h : L.length ≤ 200) (hy : ¬ YOk H R) : rnY H R L = (R, List.replicate L.length 1, 0) := by rw [rn_few h, st_bad hy, cds_bad hy]
theorem rn_len (H : Int) (R : List (List Int)) (L : List (Int × Int × Int)) : (rnY H R L).1.length = R.length := by
  by_cases h : L.length ≤ 200
  · rw [rn_few h]; exact st_len H R L _
  · rw [rn_many h]
theorem rn_rows {H : Int} {R : List (List Int)} (L : List (Int × Int × Int)) (hl : ∀ i, i < R.length → (R.getD i []).length ≤ 1048576) : ∀ i, i < (rnY H R L).1.length → ((rnY H R L).1.getD i []).length ≤ 1048576 := fun i hi => by
  by_cases h : L.length ≤ 200
  · by_cases hy : YOk H R
    · have h1 := st_ok hy L L.length
      rw [rn_few h] at hi ⊢
      have h2 := h1.low i hi
      have h3 := h1.h2
      dsimp only
      omega
    · rw [rn_bad h hy] at hi ⊢; exact hl i hi
  · rw [rn_many h] at hi ⊢; exact hl i hi
theorem rn_codes (H : Int) (R : List (List Int)) (L : List (Int × Int × Int)) : (rnY H R L).2.1.length ≤ 200 := by
  by_cases h : L.length ≤ 200
  · rw [rn_few h]; dsimp only; rw [cds_len]; exact h
  · rw [rn_many h]; simp

theorem run_copy_none {P : Program} (w : World) (dT sT ty elem : TypeId) (hu : P.underlying dT = some (.slice elem)) (hsz : (P.info? elem).map (·.size) = some 1) (a : Option Addr) (ad : Addr) (dCap sCap : Nat) :
    (Builtin.copy_ #[dT, sT] ty #[.slice a 0 dCap, .slice (some ad) 1 sCap]).run P w = .ok (goInt 0) w := by
  cases hq : P.info? elem with
  | none => simp [hq] at hsz
  | some i =>
    have hl : ∀ (x : Addr), (loadCells x 0).run P w = .ok #[] w := fun x => by simpa using run_loadCells_list (P := P) w x [] (by simp)
    cases a <;> simp [Builtin.copy_, run_underlying hu, Builtin.lenOf, Builtin.firstCells, sizeOf, typeInfo, hq, storeCells, hl]

set_option maxRecDepth 10000 in
set_option maxHeartbeats 1600000 in
theorem repeat0_any (b o cr : Nat) (w : World) :
    Calls Try.prog 54 #[.slice (some ⟨b, o, none⟩) 1 cr, .int .i64 0] w fun e w' => ∃ g, e = .returned (.slice (some ⟨g, 0, none⟩) 0 0) ∧ Below w.heap.size w w' := by
  have HM := hide (mul_any 0 w (by omega))
  have hmk := run_make_row' (P := Try.prog) 30 3 (.int .i64 0) 8 Try.underlying30 Try.infoIntCp rfl .i64 .i64 0 (by omega) (by omega)
  rw [show ((0 : Nat) : Int) = (0 : Int) from rfl] at hmk
  have HB1 := hide (Below.alloc1 w (.cells (madeCells #[Value.int .i64 0] 0) 3))
  have hsz : (Try.prog.info? 3).map (·.size) = some 1 := by
    obtain ⟨i0, hi, hzz⟩ := Option.map_eq_some_iff.1 Try.infoIntCp
    simp only [Prod.mk.injEq] at hzz
    rw [hi, Option.map_some, hzz.2.1]
  have hcp := fun W ty (a : Option Addr) (c : Nat) => run_copy_none (P := Try.prog) W 30 30 ty 3 Try.underlying30 hsz a ⟨b, o, none⟩ c cr
  clear hsz
  go_enter Try.func54, Try.ntmps54
  go_wp2_with fail
  refine (unhide HM).mono ?_
  rintro e w' ⟨rfl, h9⟩
  have h8 := h9.symm
  subst h8
  clear h9 HM
  go_wp2
  go_loopg [8] 0 (fun _ dv wr => dv = .int .i64 0 ∧ Hid (Below w.heap.size w wr))
  case atStart => exact ⟨by simp, HB1⟩
  case round =>
    obtain ⟨rfl, HW⟩ := hrel
    go_wp2
    go_ret
    exact ⟨_, rfl, unhide HW⟩

end Go.Proofs.Ytjllilmiloippaa

namespace Go.Proofs.Ytjllilmiloippaa
open Go.RowKit

theorem noLink_kept {T : Nat → Prop} {w w' : World} {k : Nat} (h : NoLink w k) (hk : Kept T w w') (hlt : k < w.heap.size) (hT : ¬ T k) : NoLink w' k := fun x q h1 h2 => by
  have e := hk.block k hlt hT
  rw [World.cell?_of_block (w := w) (a := ⟨k, 0, none⟩) e] at h1
  rw [World.cell?_of_block (w := w) (a := ⟨k, 1, none⟩) e] at h2
  exact h x q h1 h2
theorem noLink_set {w : World} {k i : Nat} {u v : Int} (h : NoLink w k) (hc : w.cell? ⟨k, i, none⟩ = some (.int .i64 u)) : NoLink (w.setCell ⟨k, i, none⟩ (.int .i64 v)) k := fun x q h1 h2 => by
  by_cases e : i = 1
  · subst e
    rw [World.cell?_setCell_same (h := hc)] at h2
    cases h2
  · rw [World.cell?_setCell_other (h := by intro e2; simp only [Addr.mk.injEq, and_true, true_and] at e2; exact e e2)] at h2
    by_cases e0 : i = 0
    · subst e0
      exact h u q hc h2
    · rw [World.cell?_setCell_other (h := by intro e2; simp only [Addr.mk.injEq, and_true, true_and] at e2; exact e0 e2)] at h1
      exact h x q h1 h2
theorem noLink_made (w : World) (n : Nat) (t : TypeId) : NoLink (w.alloc (.cells (madeCells #[.int .i64 0] n) t)) w.heap.size := fun x q _ h2 => by
  by_cases hn : 1 < n
  · have ho := ownV_alloc w (madeCells #[.int .i64 0] n) t
    rw [made_ints] at ho
    have h3 := ho.cell (ints_get (List.replicate n 0) (show 1 < (List.replicate n (0 : Int)).length by rw [List.length_replicate]; exact hn))
    rw [h3] at h2
    cases h2
  · rw [World.cell?_alloc_new] at h2
    have hs : (madeCells #[.int .i64 0] n).size = n := by simp [madeCells]
    rw [Array.getElem?_eq_none (by rw [hs]; omega)] at h2
    cases h2

/-- What RunYard answers: a yard and codes of the call's own, apart; the sum. -/
def RnA (w : World) (H : Int) (D : List (List Int) × List Int × Int) (e : Ending) (w' : World) : Prop :=
  ∃ yv cv B1 U1 B2 U2 g cap co cn cc, e = .returned (.tuple #[yardV H yv, cv, .int .i64 D.2.2]) ∧ yv = .slice (some ⟨g, 0, none⟩) D.1.length cap ∧ cv = .slice co cn cc ∧ OwnRowsU B1 U1 w' yv D.1 ∧ OwnIntsU B2 U2 w' cv D.2.1 ∧ w.heap.size ≤ B1 ∧ w.heap.size ≤ B2 ∧ U1 ≤ w'.heap.size ∧ U2 ≤ w'.heap.size ∧ (U1 ≤ B2 ∨ U2 ≤ B1) ∧ Below w.heap.size w w'

theorem ownU_of {B U : Nat} {w : World} {g cap : Nat} {G C : Nat → Nat} {R : List (List Int)} (h : OwnRows B w g G C R) (h1 : R.length ≤ cap) (h2 : cap ≤ maxLen) (hU : U = w.heap.size) : OwnRowsU B U w (.slice (some ⟨g, 0, none⟩) R.length cap) R :=
  hU ▸ Or.inr ⟨g, G, C, cap, rfl, h1, h2, h, h.top.lt, fun r hr => (h.rows r hr).lt⟩

set_option maxRecDepth 10000 in
set_option maxHeartbeats 16000000 in
theorem implRunYard_any (H : Int) (v : Value) (R : List (List Int)) (ov : Value) (L : List YardOpT) (w : World) (h : RowsIn w v R) (hO : RYardOp w ov L) (hn : R.length ≤ 1048576) (hl : ∀ s, s < R.length → (R.getD s []).length ≤ 1048576) (hLn : L.length ≤ 1048576) :
    Calls Try.prog 16 #[yardV H v, ov] w fun e w' => RnA w H (rnY H R L) e w' := by
  obtain ⟨⟨D1, D2, D3⟩, eD⟩ : ∃ D, D = rnY H R L := ⟨_, rfl⟩
  rw [← eD]
  have ED := hide eD
  clear eD
  have HV := hide h
  have HL := hide hl
  have HVO := hide hO
  obtain ⟨oo, ocap, rfl, hol, hom, -⟩ := hO
  unfold maxLen at hom
  obtain ⟨ao, cap, rfl, hc1, hc2⟩ := rows_cap h
  clear h hl
  have HYK := hide fun W (hb : Below w.heap.size w W) => implYardOk_any H (.slice ao R.length cap) R W ((unhide HV).below hb)
  have HYT : Hid (yardB H R = true → YOk H R) := fun h => of_decide_eq_true h
  have HYF : Hid (yardB H R = false → ¬ YOk H R) := fun h => of_decide_eq_false h
  have HBG := hide fun (hy : YOk H R) W (hb : Below w.heap.size w W) => boxGround_any H (.slice ao R.length cap) R W ((unhide HV).below hb) hy
  have HOY := hide fun W (hb : Below w.heap.size w W) => ownYard_any H (.slice ao R.length cap) R W ((unhide HV).below hb) hn (unhide HL)
  generalize yardB H R = r at HYK HYT HYF
  unfold yardV at HYK HBG HOY ⊢
  unfold gndV at HBG
  go_enter Try.func16, Try.ntmps16
  go_upto_region 1 with (fail)
  obtain ⟨g0, eg0⟩ : ∃ z, z = w.heap.size := ⟨_, rfl⟩
  obtain ⟨W, eW⟩ : ∃ z, z = (w.alloc (.cells #[.int .i64 H, .slice ao R.length cap] 26)).alloc (.cells #[.int .i64 0, .slice none 0 0] 26) := ⟨_, rfl⟩
  have HW : Hid (Below w.heap.size w W) := by rw [eW]; exact Below.step (Below.alloc1 _ _) (Below.alloc1 _ _)
  have HB : Hid (OwnV W g0 [.int .i64 H, .slice ao R.length cap]) := by rw [eW, eg0]; exact (ownV_alloc _ _ _).step (Below.alloc1 _ _)
  have HA : Hid (OwnV W (g0 + 1) [.int .i64 0, .slice none 0 0]) := by rw [eW, eg0]; exact own_new _ _ _ _ (by simp)
  rw [← eW, ← eg0]
  have hg0 : w.heap.size ≤ g0 := by omega
  clear eW eg0
  by_cases h200 : L.length ≤ 200
  case neg =>
    have HD := hide ((unhide ED).trans (rn_many h200))
    have n200 : ((200 : Int) < (L.length : Int)) := by omega
    have d200 : decide ((200 : Int) < (L.length : Int)) = true := decide_eq_true n200
    have b0 := (unhide HB).cell (i := 0) rfl
    have b1 := (unhide HB).cell (i := 1) rfl
    go_wp2_with fail
    refine (unhide HOY _ (unhide HW)).mono ?_
    rintro e w1 ⟨gz, Gz, Cz, capz, rfl, hz1, hz2, hOR, hb⟩
    have hbz := hOR.base
    obtain ⟨Uz, eUz⟩ : ∃ z, z = w1.heap.size := ⟨_, rfl⟩
    have HOR := hide (ownU_of hOR hz1 hz2 eUz)
    have hsw := (unhide HW).size
    have hal := (unhide HA).lt
    obtain ⟨Bz, eBz⟩ : ∃ z, z = W.heap.size := ⟨_, rfl⟩
    rw [← eBz] at HOR hsw hal hbz
    have hBU : Bz ≤ Uz := by rw [eBz, eUz]; exact hb.size
    have EUZ := hide eUz
    replace HW := hide (Below.step (unhide HW) hb)
    replace HB := hide ((unhide HB).step hb)
    replace HA := hide ((unhide HA).step hb)
    have hUz1 : Uz ≤ w1.heap.size := Nat.le_of_eq eUz
    clear hOR hb b0 b1 eBz eUz
    unfold yardV
    have HKS : Hid (Kept (fun b => b = g0 + 1) w1 ((w1.setCell ⟨g0 + 1, 0, none⟩ (.int .i64 H)).setCell ⟨g0 + 1, 1, none⟩ (.slice (some ⟨gz, 0, none⟩) R.length capz))) := ((Kept.refl (fun b => b = g0 + 1) _).setCell (p := ⟨g0 + 1, 0, none⟩) rfl _).setCell (p := ⟨g0 + 1, 1, none⟩) rfl _
    have rf0 := (unhide HA).frozen 0
    have rf1 := (unhide HA).frozen 1
    have r0 := (unhide HA).cell (i := 0) rfl
    have r1 := (unhide HA).cell (i := 1) rfl
    have f0 := (((unhide HA).set 0 (.int .i64 H) (by simp)).set 1 (.slice (some ⟨gz, 0, none⟩) R.length capz) (by simp)).cell (i := 0) rfl
    have f1 := (((unhide HA).set 0 (.int .i64 H) (by simp)).set 1 (.slice (some ⟨gz, 0, none⟩) R.length capz) (by simp)).cell (i := 1) rfl
    have hWB : Below w.heap.size w w1 := unhide HW
    go_wp2
    refine bodyPost_ret (v := .tuple #[.agg #[.int .i64 H, .slice (some ⟨gz, 0, none⟩) R.length capz], .slice none 0 0, .int .i64 0]) (by simp [results, Try.results16, go_sem, f0, f1]) rfl ?_
    have eD := unhide HD
    simp only [Prod.mk.injEq] at eD
    obtain ⟨e1, e2, e3⟩ := eD
    subst e1 e2 e3
    exact ⟨_, _, Bz, Uz, Uz, Uz, gz, capz, none, 0, 0, rfl, rfl, rfl, (unhide HOR).kept (unhide HKS) (fun b h1 h2 e => by omega), ⟨none, 0, rfl, Nat.le_refl _, Nat.zero_le _, fun h => absurd rfl h⟩, hsw, by omega, Nat.le_trans hUz1 (unhide HKS).size, Nat.le_trans hUz1 (unhide HKS).size, Or.inl (Nat.le_refl _), below_kept hWB (unhide HKS) hWB.size (fun b e => by omega)⟩
  have n200 : ¬ ((200 : Int) < (L.length : Int)) := by omega
  have d200 : decide ((200 : Int) < (L.length : Int)) = false := decide_eq_false n200
  have b0 := (unhide HB).cell (i := 0) rfl
  have b1 := (unhide HB).cell (i := 1) rfl
  go_wp2_with fail
  refine (unhide HYK _ (unhide HW)).mono ?_
  rintro e w1 ⟨rfl, hb⟩
  replace HW := hide (Below.step (unhide HW) hb)
  replace HB := hide ((unhide HB).step hb)
  replace HA := hide ((unhide HA).step hb)
  clear hb b0 b1
  clear HYK n200 d200
  cases r with
  | false =>
    have HD := hide ((unhide ED).trans (rn_bad h200 (unhide HYF (by first | rfl | trivial))))
    have b0 := (unhide HB).cell (i := 0) rfl
    have b1 := (unhide HB).cell (i := 1) rfl
    go_wp2_with fail
    refine (unhide HOY _ (unhide HW)).mono ?_
    rintro e w2 ⟨gz, Gz, Cz, capz, rfl, hz1, hz2, hOR, hb⟩
    have hbz := hOR.base
    obtain ⟨Uz, eUz⟩ : ∃ z, z = w2.heap.size := ⟨_, rfl⟩
    have HOR := hide (ownU_of hOR hz1 hz2 eUz)
    have hsw := (unhide HW).size
    have hal := (unhide HA).lt
    obtain ⟨Bz, eBz⟩ : ∃ z, z = w1.heap.size := ⟨_, rfl⟩
    rw [← eBz] at HOR hsw hal hbz
    have hBU : Bz ≤ Uz := by rw [eBz, eUz]; exact hb.size
    have EUZ := hide eUz
    replace HW := hide (Below.step (unhide HW) hb)
    replace HB := hide ((unhide HB).step hb)
    replace HA := hide ((unhide HA).step hb)
    have hUz1 : Uz ≤ w2.heap.size := Nat.le_of_eq eUz
    clear hOR hb b0 b1 eBz eUz
    unfold yardV
    by_cases hL0 : L.length = 0
    · have HQ := hide fun b o cr W => repeat0_any b o cr W
      have hL1 : (L.length : Int) = 0 := by omega
      have HL0 := hide hL0
      have HOR2 := hide ((unhide HOR).below (Below.alloc1 w2 (.cells #[.int .i64 1] 3)))
      have HA2 := hide ((unhide HA).step (Below.alloc1 w2 (.cells #[.int .i64 1] 3)))
      have HW2 := hide (Below.step (unhide HW) (Below.alloc1 w2 (.cells #[.int .i64 1] 3)))
      clear hL0
      go_wp2_with fail
      refine (unhide HQ _ _ _ _).mono ?_
      rintro e w3 ⟨gr, rfl, hb⟩
      clear HW HA HOR
      have HW := hide (Below.step (unhide HW2) hb)
      have HA := hide ((unhide HA2).step hb)
      have HOR := hide ((unhide HOR2).below hb)
      have hUz3 : Uz ≤ w3.heap.size := by have h1 := hb.size; simp only [World.size_alloc] at h1; have := unhide EUZ; omega
      have HCN : Hid (OwnIntsU Uz Uz w3 (.slice (some ⟨gr, 0, none⟩) 0 0) (List.replicate L.length 1)) := by rw [unhide HL0]; exact ⟨_, 0, rfl, Nat.le_refl _, Nat.zero_le _, fun h => absurd rfl h⟩
      clear HW2 HA2 HOR2 hb HQ hL1
      have HKS : Hid (Kept (fun b => b = g0 + 1) w3 ((w3.setCell ⟨g0 + 1, 0, none⟩ (.int .i64 H)).setCell ⟨g0 + 1, 1, none⟩ (.slice (some ⟨gz, 0, none⟩) R.length capz))) := ((Kept.refl (fun b => b = g0 + 1) _).setCell (p := ⟨g0 + 1, 0, none⟩) rfl _).setCell (p := ⟨g0 + 1, 1, none⟩) rfl _
      have rf0 := (unhide HA).frozen 0
      have rf1 := (unhide HA).frozen 1
      have r0 := (unhide HA).cell (i := 0) rfl
      have r1 := (unhide HA).cell (i := 1) rfl
      have f0 := (((unhide HA).set 0 (.int .i64 H) (by simp)).set 1 (.slice (some ⟨gz, 0, none⟩) R.length capz) (by simp)).cell (i := 0) rfl
      have f1 := (((unhide HA).set 0 (.int .i64 H) (by simp)).set 1 (.slice (some ⟨gz, 0, none⟩) R.length capz) (by simp)).cell (i := 1) rfl
      have hWB : Below w.heap.size w w3 := unhide HW
      go_wp2
      refine bodyPost_ret (v := .tuple #[.agg #[.int .i64 H, .slice (some ⟨gz, 0, none⟩) R.length capz], .slice (some ⟨gr, 0, none⟩) 0 0, .int .i64 0]) (by simp [results, Try.results16, go_sem, f0, f1]) rfl ?_
      have eD := unhide HD
      simp only [Prod.mk.injEq] at eD
      obtain ⟨e1, e2, e3⟩ := eD
      subst e1 e2 e3
      exact ⟨_, _, Bz, Uz, Uz, Uz, gz, capz, _, _, _, rfl, rfl, rfl, (unhide HOR).kept (unhide HKS) (fun b h1 h2 e => by omega), (unhide HCN).kept (unhide HKS) (fun b h1 h2 e => by omega), hsw, by omega, Nat.le_trans hUz3 (unhide HKS).size, Nat.le_trans hUz3 (unhide HKS).size, Or.inl (Nat.le_refl _), below_kept hWB (unhide HKS) hWB.size (fun b e => by omega)⟩
    · have HOR2 := hide ((unhide HOR).below (Below.alloc1 w2 (.cells #[.int .i64 1] 3)))
      have HA2 := hide ((unhide HA).step (Below.alloc1 w2 (.cells #[.int .i64 1] 3)))
      have HW2 := hide (Below.step (unhide HW) (Below.alloc1 w2 (.cells #[.int .i64 1] 3)))
      have HQ := hide (repeat1_any w2.heap.size 0 1 1 L.length (w2.alloc (.cells #[.int .i64 1] 3)) ((ownV_alloc w2 #[.int .i64 1] 3).cell (i := 0) rfl) (by omega) (by omega))
      go_wp2_with fail
      refine (unhide HQ).mono ?_
      rintro e w3 ⟨gr, rfl, hgr, hoc, hb⟩
      clear HW HA HOR
      have HW := hide (Below.step (unhide HW2) hb)
      have HA := hide ((unhide HA2).step hb)
      have HOR := hide ((unhide HOR2).below hb)
      have hUz3 : Uz ≤ w3.heap.size := by have h1 := hb.size; simp only [World.size_alloc] at h1; have := unhide EUZ; omega
      have HCN : Hid (OwnIntsU Uz w3.heap.size w3 (.slice (some ⟨gr, 0, none⟩) L.length L.length) (List.replicate L.length 1)) := by
        have hlr : (List.replicate L.length (1 : Int)).length = L.length := List.length_replicate
        refine ⟨_, L.length, by rw [hlr], by rw [hlr]; exact Nat.le_refl _, by unfold maxLen; omega, fun _ => ⟨gr, rfl, by simp only [World.size_alloc] at hgr; have := unhide EUZ; omega, hoc.lt, hoc⟩⟩
      clear HW2 HA2 HOR2 hb HQ hoc
      have HKS : Hid (Kept (fun b => b = g0 + 1) w3 ((w3.setCell ⟨g0 + 1, 0, none⟩ (.int .i64 H)).setCell ⟨g0 + 1, 1, none⟩ (.slice (some ⟨gz, 0, none⟩) R.length capz))) := ((Kept.refl (fun b => b = g0 + 1) _).setCell (p := ⟨g0 + 1, 0, none⟩) rfl _).setCell (p := ⟨g0 + 1, 1, none⟩) rfl _
      have rf0 := (unhide HA).frozen 0
      have rf1 := (unhide HA).frozen 1
      have r0 := (unhide HA).cell (i := 0) rfl
      have r1 := (unhide HA).cell (i := 1) rfl
      have f0 := (((unhide HA).set 0 (.int .i64 H) (by simp)).set 1 (.slice (some ⟨gz, 0, none⟩) R.length capz) (by simp)).cell (i := 0) rfl
      have f1 := (((unhide HA).set 0 (.int .i64 H) (by simp)).set 1 (.slice (some ⟨gz, 0, none⟩) R.length capz) (by simp)).cell (i := 1) rfl
      have hWB : Below w.heap.size w w3 := unhide HW
      go_wp2
      refine bodyPost_ret (v := .tuple #[.agg #[.int .i64 H, .slice (some ⟨gz, 0, none⟩) R.length capz], .slice (some ⟨gr, 0, none⟩) L.length L.length, .int .i64 0]) (by simp [results, Try.results16, go_sem, f0, f1]) rfl ?_
      have eD := unhide HD
      simp only [Prod.mk.injEq] at eD
      obtain ⟨e1, e2, e3⟩ := eD
      subst e1 e2 e3
      exact ⟨_, _, Bz, Uz, Uz, w3.heap.size, gz, capz, _, _, _, rfl, rfl, rfl, (unhide HOR).kept (unhide HKS) (fun b h1 h2 e => by omega), (unhide HCN).kept (unhide HKS) (fun b h1 h2 e => by omega), hsw, by omega, Nat.le_trans hUz3 (unhide HKS).size, (unhide HKS).size, Or.inl (Nat.le_refl _), below_kept hWB (unhide HKS) hWB.size (fun b e => by omega)⟩
  | true =>
    have hy := unhide HYT (by first | rfl | trivial)
    have HY := hide hy
    have hn1 := hy.n1
    have hn2 := hy.n2
    clear hy HYT HYF
    have HD := hide ((unhide ED).trans (rn_few h200))
    have hmk := run_make_row' (P := Try.prog) 30 3 (.int .i64 0) 8 Try.underlying30 Try.info3 rfl .i64 .i64 L.length (by omega) (by omega)
    have b0 := (unhide HB).cell (i := 0) rfl
    have b1 := (unhide HB).cell (i := 1) rfl
    go_upto_region 5 with (fail)
    clear b0 b1
    go_cut [7, 8, 9] (fun s7 s8 s9 wx => ∃ (gb g' gc : Nat) (Z' : List (Option Addr × Nat)), s7 = .pointer (some ⟨gb, 0, none⟩) ∧ s8 = .slice (some ⟨gc, 0, none⟩) L.length L.length ∧ s9 = .int .i64 0 ∧ g0 + 1 < gb ∧ g0 + 1 < gc ∧ gb ≠ gc ∧ Hid (Below w.heap.size w wx) ∧ Hid (OwnV wx (g0 + 1) [.int .i64 0, .slice none 0 0]) ∧ Hid (OwnV wx gb [.int .i64 H, .slice (some ⟨g', 0, none⟩) R.length R.length]) ∧ Hid (Gnd wx g' Z' (pilF idF R)) ∧ Hid (OwnV wx gc (ints (List.replicate L.length 0))) ∧ Hid (NoLink wx gc))
    case first =>
      have hal := (unhide HA).lt
      obtain ⟨wd, ewd⟩ : ∃ z, z = w1.drew := ⟨_, rfl⟩
      have hb : Below w1.heap.size w1 wd := by rw [ewd]; exact (Below.refl _ _).drew
      have hlwd := Nat.lt_of_lt_of_le hal hb.size
      replace HW := hide (Below.step (unhide HW) hb)
      replace HB := hide ((unhide HB).step hb)
      replace HA := hide ((unhide HA).step hb)
      clear hb
      refine wp_region_held_drew (S := fun w' => w'.cell? ⟨g0, 0, none⟩ = some (.int .i64 H) ∧ w'.cell? ⟨g0, 1, none⟩ = some (.slice ao R.length cap)) (by kernel_rfl) ⟨by rw [← ewd]; exact (unhide HB).cell (i := 0) rfl, by rw [← ewd]; exact (unhide HB).cell (i := 1) rfl⟩ (fun hHeld => ?_)
      rw [← ewd] at hHeld ⊢
      clear ewd
      refine wpAnyH_take (i := 0) (v := ?_) rfl (by kernel_rfl) (by kernel_rfl) (by kernel_rfl) (fun _ _ _ h => h) (Or.inl ⟨by rfl, ?_⟩) (by assumption) ?_
      rotate_left
      · intro wy hSw
        obtain ⟨hS0, hS1⟩ := hSw
        go_simp
        try with_reducible rfl
      try simp only [Act.put, List.getElem_toArray, List.getElem_cons_zero, List.setIfInBounds_toArray, List.set_cons_zero, List.set_cons_succ]
      refine wpAnyH_take (i := 2) (v := ?_) rfl (by kernel_rfl) (by kernel_rfl) (by kernel_rfl) (fun _ _ _ h => h) (Or.inl ⟨by rfl, ?_⟩) (by assumption) ?_
      rotate_left
      · intro wy hSw
        obtain ⟨hS0, hS1⟩ := hSw
        go_simp
        try with_reducible rfl
      try simp only [Act.put, List.getElem_toArray, List.getElem_cons_succ, List.getElem_cons_zero, List.setIfInBounds_toArray, List.set_cons_zero, List.set_cons_succ]
      refine wpAnyH_take (i := 3) (v := ?_) rfl (by kernel_rfl) (by kernel_rfl) (by kernel_rfl) (fun _ _ _ h => h) (Or.inl ⟨by rfl, ?_⟩) (by assumption) ?_
      rotate_left
      · intro wy hSw
        obtain ⟨hS0, hS1⟩ := hSw
        go_simp
        try with_reducible rfl
      try simp only [Act.put, List.getElem_toArray, List.getElem_cons_succ, List.getElem_cons_zero, List.setIfInBounds_toArray, List.set_cons_zero, List.set_cons_succ]
      refine wpAnyH_ready (rs := [1, 4, 5]) (by kernel_rfl) (by simp) ?_
      refine AllReadyH.cons rfl (fun K hK => ?_) (AllReadyH.cons rfl (fun K hK => ?_) (AllReadyH.cons rfl (fun K hK => ?_) (AllReadyH.nil)))
      · go_simp
        have HCQ := hide (unhide HBG (unhide HY) wd (unhide HW))
        refine (unhide HCQ).mono ?_
        rintro e v1 ⟨g', Z', rfl, hg1, hG1, hb⟩
        have hlv1 := Nat.lt_of_lt_of_le hlwd hb.size
        replace HW := hide (Below.step (unhide HW) hb)
        replace HB := hide ((unhide HB).step hb)
        replace HA := hide ((unhide HA).step hb)
        have HN := hide hG1
        clear hG1 hb HCQ
        refine hK.out _ _ ⟨(unhide HB).cell (i := 0) rfl, (unhide HB).cell (i := 1) rfl⟩ (fun hHeld => ?_)
        clear hK K
        try simp only [Act.put, List.setIfInBounds_toArray, List.set_cons_zero, List.set_cons_succ]
        refine wpAnyH_ready (rs := [4, 5]) (by kernel_rfl) (by simp) ?_
        refine AllReadyH.cons rfl (fun K hK => ?_) (AllReadyH.cons rfl (fun K hK => ?_) (AllReadyH.nil))
        · go_simp
          obtain ⟨gc, egc⟩ : ∃ z, z = v1.heap.size := ⟨_, rfl⟩
          have hgc : g0 + 1 < gc := by rw [egc]; exact hlv1
          obtain ⟨v41, ew⟩ : ∃ z, z = v1.alloc (.cells (madeCells #[.int .i64 0] L.length) 3) := ⟨_, rfl⟩
          have hb : Below v1.heap.size v1 v41 := by rw [ew]; exact Below.alloc1 _ _
          have hlv41 := Nat.lt_of_lt_of_le hlv1 hb.size
          have HD0' : Hid (OwnV v41 gc (ints (List.replicate L.length 0))) := by rw [ew, egc, ← made_ints]; exact ownV_alloc _ _ _
          have HNL' : Hid (NoLink v41 gc) := by rw [ew, egc]; exact noLink_made _ _ _
          rw [← ew, ← egc]
          replace HW := hide (Below.step (unhide HW) hb)
          replace HB := hide ((unhide HB).step hb)
          replace HA := hide ((unhide HA).step hb)
          replace HN := hide ((unhide HN).below hb)
          have HD0 := HD0'
          have HNL := HNL'
          clear hb ew egc HD0' HNL'
          refine hK.out _ _ ⟨(unhide HB).cell (i := 0) rfl, (unhide HB).cell (i := 1) rfl⟩ (fun hHeld => ?_)
          clear hK K
          try simp only [Act.put, List.setIfInBounds_toArray, List.set_cons_zero, List.set_cons_succ]
          refine wpAnyH_ready (rs := [5]) (by kernel_rfl) (by simp) ?_
          refine AllReadyH.cons rfl (fun K hK => ?_) (AllReadyH.nil)
          go_simp
          obtain ⟨gb, egb⟩ : ∃ z, z = v41.heap.size := ⟨_, rfl⟩
          have hgb : g0 + 1 < gb := by rw [egb]; exact hlv41
          have hbc : gb ≠ gc := by have h1 := (unhide HD0).lt; omega
          obtain ⟨v514, ew⟩ : ∃ z, z = v41.alloc (.cells #[.int .i64 0, .slice none 0 0] 73) := ⟨_, rfl⟩
          have hb : Below v41.heap.size v41 v514 := by rw [ew]; exact Below.alloc1 _ _
          have hlv514 := Nat.lt_of_lt_of_le hlv41 hb.size
          have HBB' : Hid (OwnV v514 gb [.int .i64 0, .slice none 0 0]) := by rw [ew, egb]; exact ownV_alloc _ _ _
          rw [← ew, ← egb]
          replace HW := hide (Below.step (unhide HW) hb)
          replace HB := hide ((unhide HB).step hb)
          replace HA := hide ((unhide HA).step hb)
          replace HN := hide ((unhide HN).below hb)
          have hgcw := (unhide HD0).lt
          replace HNL := hide (noLink_kept (T := fun _ => False) (unhide HNL) (kept_of_below hb) hgcw id)
          clear hgcw
          replace HD0 := hide ((unhide HD0).step hb)
          have HBB := HBB'
          clear hb ew egb HBB'
          refine hK.out _ _ ⟨(unhide HB).cell (i := 0) rfl, (unhide HB).cell (i := 1) rfl⟩ (fun hHeld => ?_)
          clear hK K
          try simp only [Act.put, List.setIfInBounds_toArray, List.set_cons_zero, List.set_cons_succ]
          refine wpAnyH_ready (rs := [6]) (by kernel_rfl) (by simp) ?_
          refine AllReadyH.cons rfl (fun K hK => ?_) (AllReadyH.nil)
          obtain ⟨v6145, ews⟩ : ∃ z, z = (v514.setCell ⟨gb, 0, none⟩ (.int .i64 H)).setCell ⟨gb, 1, none⟩ (.slice (some ⟨g', 0, none⟩) R.length R.length) := ⟨_, rfl⟩
          have rf0 := (unhide HBB).frozen 0
          have rf1 := (unhide HBB).frozen 1
          have r0 := (unhide HBB).cell (i := 0) rfl
          have r1 := (unhide HBB).cell (i := 1) rfl
          have HBN : Hid (OwnV v6145 gb [.int .i64 H, .slice (some ⟨g', 0, none⟩) R.length R.length]) := by rw [ews]; exact ((unhide HBB).set 0 (.int .i64 H) (by simp)).set 1 (.slice (some ⟨g', 0, none⟩) R.length R.length) (by simp)
          have HKS : Hid (Kept (fun b => b = gb) v514 v6145) := by rw [ews]; exact ((Kept.refl (fun b => b = gb) _).setCell (p := ⟨gb, 0, none⟩) rfl _).setCell (p := ⟨gb, 1, none⟩) rfl _
          have hlv6145 := Nat.lt_of_lt_of_le hlv514 (unhide HKS).size
          have hng : g' ≠ gb := gnd_ne (unhide HN) (by rw [pilF_len]; omega) (unhide HBB)
          have hWB := unhide HW
          replace HW := hide (below_kept hWB (unhide HKS) hWB.size (fun b e => by omega))
          replace HB := hide ((unhide HB).kept (unhide HKS) (by omega))
          replace HA := hide ((unhide HA).kept (unhide HKS) (by omega))
          replace HN := hide ((unhide HN).kept (unhide HKS) hng (fun k e => e ▸ noLink_own (unhide HBB) (fun q e => by cases e)))
          have hcb : ¬ gc = gb := fun e => hbc e.symm
          have hgcw := (unhide HD0).lt
          replace HNL := hide (noLink_kept (unhide HNL) (unhide HKS) hgcw hcb)
          replace HD0 := hide ((unhide HD0).kept (unhide HKS) hcb)
          go_simp
          rw [← ews]
          clear rf0 rf1 r0 r1 hWB ews HBB HKS
          refine hK.out _ _ ⟨(unhide HB).cell (i := 0) rfl, (unhide HB).cell (i := 1) rfl⟩ (fun hHeld => ?_)
          clear hK K
          try simp only [Act.put, List.setIfInBounds_toArray, List.set_cons_zero, List.set_cons_succ]
          refine wpAnyH_take (i := 7) (v := ?_) rfl (by kernel_rfl) (by kernel_rfl) (by kernel_rfl) (fun _ _ _ h => h) (Or.inl ⟨by rfl, ?_⟩) (by assumption) ?_
          rotate_left
          · intro wy hSw
            obtain ⟨hS0, hS1⟩ := hSw
            go_simp
            try with_reducible rfl
          try simp only [Act.put, List.getElem_toArray, List.getElem_cons_succ, List.getElem_cons_zero, List.setIfInBounds_toArray, List.set_cons_zero, List.set_cons_succ]
          refine wpAnyH_take (i := 8) (v := ?_) rfl (by kernel_rfl) (by kernel_rfl) (by kernel_rfl) (fun _ _ _ h => h) (Or.inl ⟨by rfl, ?_⟩) (by assumption) ?_
          rotate_left
          · intro wy hSw
            obtain ⟨hS0, hS1⟩ := hSw
            go_simp
            try with_reducible rfl
          try simp only [Act.put, List.getElem_toArray, List.getElem_cons_succ, List.getElem_cons_zero, List.setIfInBounds_toArray, List.set_cons_zero, List.set_cons_succ]
          refine wpAnyH_done (by kernel_rfl) ?_ _
          go_wp2_with fail
          go_meet
          exact ⟨gb, g', gc, Z', rfl, rfl, rfl, hgb, hgc, hbc, HW, HA, HBN, HN, HD0, HNL⟩
        · go_simp
          obtain ⟨gb, egb⟩ : ∃ z, z = v1.heap.size := ⟨_, rfl⟩
          have hgb : g0 + 1 < gb := by rw [egb]; exact hlv1
          obtain ⟨v51, ew⟩ : ∃ z, z = v1.alloc (.cells #[.int .i64 0, .slice none 0 0] 73) := ⟨_, rfl⟩
          have hb : Below v1.heap.size v1 v51 := by rw [ew]; exact Below.alloc1 _ _
          have hlv51 := Nat.lt_of_lt_of_le hlv1 hb.size
          have HBB' : Hid (OwnV v51 gb [.int .i64 0, .slice none 0 0]) := by rw [ew, egb]; exact ownV_alloc _ _ _
          rw [← ew, ← egb]
          replace HW := hide (Below.step (unhide HW) hb)
          replace HB := hide ((unhide HB).step hb)
          replace HA := hide ((unhide HA).step hb)
          replace HN := hide ((unhide HN).below hb)
          have HBB := HBB'
          clear hb ew egb HBB'
          refine hK.out _ _ ⟨(unhide HB).cell (i := 0) rfl, (unhide HB).cell (i := 1) rfl⟩ (fun hHeld => ?_)
          clear hK K
          try simp only [Act.put, List.setIfInBounds_toArray, List.set_cons_zero, List.set_cons_succ]
          refine wpAnyH_ready (rs := [4, 6]) (by kernel_rfl) (by simp) ?_
          refine AllReadyH.cons rfl (fun K hK => ?_) (AllReadyH.cons rfl (fun K hK => ?_) (AllReadyH.nil))
          · go_simp
            obtain ⟨gc, egc⟩ : ∃ z, z = v51.heap.size := ⟨_, rfl⟩
            have hgc : g0 + 1 < gc := by rw [egc]; exact hlv51
            have hbc : gb ≠ gc := by have h1 := (unhide HBB).lt; omega
            obtain ⟨v415, ew⟩ : ∃ z, z = v51.alloc (.cells (madeCells #[.int .i64 0] L.length) 3) := ⟨_, rfl⟩
            have hb : Below v51.heap.size v51 v415 := by rw [ew]; exact Below.alloc1 _ _
            have hlv415 := Nat.lt_of_lt_of_le hlv51 hb.size
            have HD0' : Hid (OwnV v415 gc (ints (List.replicate L.length 0))) := by rw [ew, egc, ← made_ints]; exact ownV_alloc _ _ _
            have HNL' : Hid (NoLink v415 gc) := by rw [ew, egc]; exact noLink_made _ _ _
            rw [← ew, ← egc]
            replace HW := hide (Below.step (unhide HW) hb)
            replace HB := hide ((unhide HB).step hb)
            replace HA := hide ((unhide HA).step hb)
            replace HN := hide ((unhide HN).below hb)
            replace HBB := hide ((unhide HBB).step hb)
            have HD0 := HD0'
            have HNL := HNL'
            clear hb ew egc HD0' HNL'
            refine hK.out _ _ ⟨(unhide HB).cell (i := 0) rfl, (unhide HB).cell (i := 1) rfl⟩ (fun hHeld => ?_)
            clear hK K
            try simp only [Act.put, List.setIfInBounds_toArray, List.set_cons_zero, List.set_cons_succ]
            refine wpAnyH_ready (rs := [6]) (by kernel_rfl) (by simp) ?_
            refine AllReadyH.cons rfl (fun K hK => ?_) (AllReadyH.nil)
            obtain ⟨v6154, ews⟩ : ∃ z, z = (v415.setCell ⟨gb, 0, none⟩ (.int .i64 H)).setCell ⟨gb, 1, none⟩ (.slice (some ⟨g', 0, none⟩) R.length R.length) := ⟨_, rfl⟩
            have rf0 := (unhide HBB).frozen 0
            have rf1 := (unhide HBB).frozen 1
            have r0 := (unhide HBB).cell (i := 0) rfl
            have r1 := (unhide HBB).cell (i := 1) rfl
            have HBN : Hid (OwnV v6154 gb [.int .i64 H, .slice (some ⟨g', 0, none⟩) R.length R.length]) := by rw [ews]; exact ((unhide HBB).set 0 (.int .i64 H) (by simp)).set 1 (.slice (some ⟨g', 0, none⟩) R.length R.length) (by simp)
            have HKS : Hid (Kept (fun b => b = gb) v415 v6154) := by rw [ews]; exact ((Kept.refl (fun b => b = gb) _).setCell (p := ⟨gb, 0, none⟩) rfl _).setCell (p := ⟨gb, 1, none⟩) rfl _
            have hlv6154 := Nat.lt_of_lt_of_le hlv415 (unhide HKS).size
            have hng : g' ≠ gb := gnd_ne (unhide HN) (by rw [pilF_len]; omega) (unhide HBB)
            have hWB := unhide HW
            replace HW := hide (below_kept hWB (unhide HKS) hWB.size (fun b e => by omega))
            replace HB := hide ((unhide HB).kept (unhide HKS) (by omega))
            replace HA := hide ((unhide HA).kept (unhide HKS) (by omega))
            replace HN := hide ((unhide HN).kept (unhide HKS) hng (fun k e => e ▸ noLink_own (unhide HBB) (fun q e => by cases e)))
            have hcb : ¬ gc = gb := fun e => hbc e.symm
            have hgcw := (unhide HD0).lt
            replace HNL := hide (noLink_kept (unhide HNL) (unhide HKS) hgcw hcb)
            replace HD0 := hide ((unhide HD0).kept (unhide HKS) hcb)
            go_simp
            rw [← ews]
            clear rf0 rf1 r0 r1 hWB ews HBB HKS
            refine hK.out _ _ ⟨(unhide HB).cell (i := 0) rfl, (unhide HB).cell (i := 1) rfl⟩ (fun hHeld => ?_)
            clear hK K
            try simp only [Act.put, List.setIfInBounds_toArray, List.set_cons_zero, List.set_cons_succ]
            refine wpAnyH_take (i := 7) (v := ?_) rfl (by kernel_rfl) (by kernel_rfl) (by kernel_rfl) (fun _ _ _ h => h) (Or.inl ⟨by rfl, ?_⟩) (by assumption) ?_
            rotate_left
            · intro wy hSw
              obtain ⟨hS0, hS1⟩ := hSw
              go_simp
              try with_reducible rfl
            try simp only [Act.put, List.getElem_toArray, List.getElem_cons_succ, List.getElem_cons_zero, List.setIfInBounds_toArray, List.set_cons_zero, List.set_cons_succ]
            refine wpAnyH_take (i := 8) (v := ?_) rfl (by kernel_rfl) (by kernel_rfl) (by kernel_rfl) (fun _ _ _ h => h) (Or.inl ⟨by rfl, ?_⟩) (by assumption) ?_
            rotate_left
            · intro wy hSw
              obtain ⟨hS0, hS1⟩ := hSw
              go_simp
              try with_reducible rfl
            try simp only [Act.put, List.getElem_toArray, List.getElem_cons_succ, List.getElem_cons_zero, List.setIfInBounds_toArray, List.set_cons_zero, List.set_cons_succ]
            refine wpAnyH_done (by kernel_rfl) ?_ _
            go_wp2_with fail
            go_meet
            exact ⟨gb, g', gc, Z', rfl, rfl, rfl, hgb, hgc, hbc, HW, HA, HBN, HN, HD0, HNL⟩
          · obtain ⟨v615, ews⟩ : ∃ z, z = (v51.setCell ⟨gb, 0, none⟩ (.int .i64 H)).setCell ⟨gb, 1, none⟩ (.slice (some ⟨g', 0, none⟩) R.length R.length) := ⟨_, rfl⟩
            have rf0 := (unhide HBB).frozen 0
            have rf1 := (unhide HBB).frozen 1
            have r0 := (unhide HBB).cell (i := 0) rfl
            have r1 := (unhide HBB).cell (i := 1) rfl
            have HBN : Hid (OwnV v615 gb [.int .i64 H, .slice (some ⟨g', 0, none⟩) R.length R.length]) := by rw [ews]; exact ((unhide HBB).set 0 (.int .i64 H) (by simp)).set 1 (.slice (some ⟨g', 0, none⟩) R.length R.length) (by simp)
            have HKS : Hid (Kept (fun b => b = gb) v51 v615) := by rw [ews]; exact ((Kept.refl (fun b => b = gb) _).setCell (p := ⟨gb, 0, none⟩) rfl _).setCell (p := ⟨gb, 1, none⟩) rfl _
            have hlv615 := Nat.lt_of_lt_of_le hlv51 (unhide HKS).size
            have hng : g' ≠ gb := gnd_ne (unhide HN) (by rw [pilF_len]; omega) (unhide HBB)
            have hWB := unhide HW
            replace HW := hide (below_kept hWB (unhide HKS) hWB.size (fun b e => by omega))
            replace HB := hide ((unhide HB).kept (unhide HKS) (by omega))
            replace HA := hide ((unhide HA).kept (unhide HKS) (by omega))
            replace HN := hide ((unhide HN).kept (unhide HKS) hng (fun k e => e ▸ noLink_own (unhide HBB) (fun q e => by cases e)))
            go_simp
            rw [← ews]
            clear rf0 rf1 r0 r1 hWB ews HBB HKS
            refine hK.out _ _ ⟨(unhide HB).cell (i := 0) rfl, (unhide HB).cell (i := 1) rfl⟩ (fun hHeld => ?_)
            clear hK K
            try simp only [Act.put, List.setIfInBounds_toArray, List.set_cons_zero, List.set_cons_succ]
            refine wpAnyH_ready (rs := [4]) (by kernel_rfl) (by simp) ?_
            refine AllReadyH.cons rfl (fun K hK => ?_) (AllReadyH.nil)
            go_simp
            obtain ⟨gc, egc⟩ : ∃ z, z = v615.heap.size := ⟨_, rfl⟩
            have hgc : g0 + 1 < gc := by rw [egc]; exact hlv615
            have hbc : gb ≠ gc := by have h1 := (unhide HBN).lt; omega
            obtain ⟨v4156, ew⟩ : ∃ z, z = v615.alloc (.cells (madeCells #[.int .i64 0] L.length) 3) := ⟨_, rfl⟩
            have hb : Below v615.heap.size v615 v4156 := by rw [ew]; exact Below.alloc1 _ _
            have hlv4156 := Nat.lt_of_lt_of_le hlv615 hb.size
            have HD0' : Hid (OwnV v4156 gc (ints (List.replicate L.length 0))) := by rw [ew, egc, ← made_ints]; exact ownV_alloc _ _ _
            have HNL' : Hid (NoLink v4156 gc) := by rw [ew, egc]; exact noLink_made _ _ _
            rw [← ew, ← egc]
            replace HW := hide (Below.step (unhide HW) hb)
            replace HB := hide ((unhide HB).step hb)
            replace HA := hide ((unhide HA).step hb)
            replace HN := hide ((unhide HN).below hb)
            replace HBN := hide ((unhide HBN).step hb)
            have HD0 := HD0'
            have HNL := HNL'
            clear hb ew egc HD0' HNL'
            refine hK.out _ _ ⟨(unhide HB).cell (i := 0) rfl, (unhide HB).cell (i := 1) rfl⟩ (fun hHeld => ?_)
            clear hK K
            try simp only [Act.put, List.setIfInBounds_toArray, List.set_cons_zero, List.set_cons_succ]
            refine wpAnyH_take (i := 7) (v := ?_) rfl (by kernel_rfl) (by kernel_rfl) (by kernel_rfl) (fun _ _ _ h => h) (Or.inl ⟨by rfl, ?_⟩) (by assumption) ?_
            rotate_left
            · intro wy hSw
              obtain ⟨hS0, hS1⟩ := hSw
              go_simp
              try with_reducible rfl
            try simp only [Act.put, List.getElem_toArray, List.getElem_cons_succ, List.getElem_cons_zero, List.setIfInBounds_toArray, List.set_cons_zero, List.set_cons_succ]
            refine wpAnyH_take (i := 8) (v := ?_) rfl (by kernel_rfl) (by kernel_rfl) (by kernel_rfl) (fun _ _ _ h => h) (Or.inl ⟨by rfl, ?_⟩) (by assumption) ?_
            rotate_left
            · intro wy hSw
              obtain ⟨hS0, hS1⟩ := hSw
              go_simp
              try with_reducible rfl
            try simp only [Act.put, List.getElem_toArray, List.getElem_cons_succ, List.getElem_cons_zero, List.setIfInBounds_toArray, List.set_cons_zero, List.set_cons_succ]
            refine wpAnyH_done (by kernel_rfl) ?_ _
            go_wp2_with fail
            go_meet
            exact ⟨gb, g', gc, Z', rfl, rfl, rfl, hgb, hgc, hbc, HW, HA, HBN, HN, HD0, HNL⟩
      · go_simp
        obtain ⟨gc, egc⟩ : ∃ z, z = wd.heap.size := ⟨_, rfl⟩
        have hgc : g0 + 1 < gc := by rw [egc]; exact hlwd
        obtain ⟨v4, ew⟩ : ∃ z, z = wd.alloc (.cells (madeCells #[.int .i64 0] L.length) 3) := ⟨_, rfl⟩
        have hb : Below wd.heap.size wd v4 := by rw [ew]; exact Below.alloc1 _ _
        have hlv4 := Nat.lt_of_lt_of_le hlwd hb.size
        have HD0' : Hid (OwnV v4 gc (ints (List.replicate L.length 0))) := by rw [ew, egc, ← made_ints]; exact ownV_alloc _ _ _
        have HNL' : Hid (NoLink v4 gc) := by rw [ew, egc]; exact noLink_made _ _ _
        rw [← ew, ← egc]
        replace HW := hide (Below.step (unhide HW) hb)
        replace HB := hide ((unhide HB).step hb)
        replace HA := hide ((unhide HA).step hb)
        have HD0 := HD0'
        have HNL := HNL'
        clear hb ew egc HD0' HNL'
        refine hK.out _ _ ⟨(unhide HB).cell (i := 0) rfl, (unhide HB).cell (i := 1) rfl⟩ (fun hHeld => ?_)
        clear hK K
        try simp only [Act.put, List.setIfInBounds_toArray, List.set_cons_zero, List.set_cons_succ]
        refine wpAnyH_ready (rs := [1, 5]) (by kernel_rfl) (by simp) ?_
        refine AllReadyH.cons rfl (fun K hK => ?_) (AllReadyH.cons rfl (fun K hK => ?_) (AllReadyH.nil))
        · go_simp
          have HCQ := hide (unhide HBG (unhide HY) v4 (unhide HW))
          refine (unhide HCQ).mono ?_
          rintro e v14 ⟨g', Z', rfl, hg1, hG1, hb⟩
          have hlv14 := Nat.lt_of_lt_of_le hlv4 hb.size
          replace HW := hide (Below.step (unhide HW) hb)
          replace HB := hide ((unhide HB).step hb)
          replace HA := hide ((unhide HA).step hb)
          have hgcw := (unhide HD0).lt
          replace HNL := hide (noLink_kept (T := fun _ => False) (unhide HNL) (kept_of_below hb) hgcw id)
          clear hgcw
          replace HD0 := hide ((unhide HD0).step hb)
          have HN := hide hG1
          clear hG1 hb HCQ
          refine hK.out _ _ ⟨(unhide HB).cell (i := 0) rfl, (unhide HB).cell (i := 1) rfl⟩ (fun hHeld => ?_)
          clear hK K
          try simp only [Act.put, List.setIfInBounds_toArray, List.set_cons_zero, List.set_cons_succ]
          refine wpAnyH_ready (rs := [5]) (by kernel_rfl) (by simp) ?_
          refine AllReadyH.cons rfl (fun K hK => ?_) (AllReadyH.nil)
          go_simp
          obtain ⟨gb, egb⟩ : ∃ z, z = v14.heap.size := ⟨_, rfl⟩
          have hgb : g0 + 1 < gb := by rw [egb]; exact hlv14
          have hbc : gb ≠ gc := by have h1 := (unhide HD0).lt; omega
          obtain ⟨v541, ew⟩ : ∃ z, z = v14.alloc (.cells #[.int .i64 0, .slice none 0 0] 73) := ⟨_, rfl⟩
          have hb : Below v14.heap.size v14 v541 := by rw [ew]; exact Below.alloc1 _ _
          have hlv541 := Nat.lt_of_lt_of_le hlv14 hb.size
          have HBB' : Hid (OwnV v541 gb [.int .i64 0, .slice none 0 0]) := by rw [ew, egb]; exact ownV_alloc _ _ _
          rw [← ew, ← egb]
          replace HW := hide (Below.step (unhide HW) hb)
          replace HB := hide ((unhide HB).step hb)
          replace HA := hide ((unhide HA).step hb)
          replace HN := hide ((unhide HN).below hb)
          have hgcw := (unhide HD0).lt
          replace HNL := hide (noLink_kept (T := fun _ => False) (unhide HNL) (kept_of_below hb) hgcw id)
          clear hgcw
          replace HD0 := hide ((unhide HD0).step hb)
          have HBB := HBB'
          clear hb ew egb HBB'
          refine hK.out _ _ ⟨(unhide HB).cell (i := 0) rfl, (unhide HB).cell (i := 1) rfl⟩ (fun hHeld => ?_)
          clear hK K
          try simp only [Act.put, List.setIfInBounds_toArray, List.set_cons_zero, List.set_cons_succ]
          refine wpAnyH_ready (rs := [6]) (by kernel_rfl) (by simp) ?_
          refine AllReadyH.cons rfl (fun K hK => ?_) (AllReadyH.nil)
          obtain ⟨v6415, ews⟩ : ∃ z, z = (v541.setCell ⟨gb, 0, none⟩ (.int .i64 H)).setCell ⟨gb, 1, none⟩ (.slice (some ⟨g', 0, none⟩) R.length R.length) := ⟨_, rfl⟩
          have rf0 := (unhide HBB).frozen 0
          have rf1 := (unhide HBB).frozen 1
          have r0 := (unhide HBB).cell (i := 0) rfl
          have r1 := (unhide HBB).cell (i := 1) rfl
          have HBN : Hid (OwnV v6415 gb [.int .i64 H, .slice (some ⟨g', 0, none⟩) R.length R.length]) := by rw [ews]; exact ((unhide HBB).set 0 (.int .i64 H) (by simp)).set 1 (.slice (some ⟨g', 0, none⟩) R.length R.length) (by simp)
          have HKS : Hid (Kept (fun b => b = gb) v541 v6415) := by rw [ews]; exact ((Kept.refl (fun b => b = gb) _).setCell (p := ⟨gb, 0, none⟩) rfl _).setCell (p := ⟨gb, 1, none⟩) rfl _
          have hlv6415 := Nat.lt_of_lt_of_le hlv541 (unhide HKS).size
          have hng : g' ≠ gb := gnd_ne (unhide HN) (by rw [pilF_len]; omega) (unhide HBB)
          have hWB := unhide HW
          replace HW := hide (below_kept hWB (unhide HKS) hWB.size (fun b e => by omega))
          replace HB := hide ((unhide HB).kept (unhide HKS) (by omega))
          replace HA := hide ((unhide HA).kept (unhide HKS) (by omega))
          replace HN := hide ((unhide HN).kept (unhide HKS) hng (fun k e => e ▸ noLink_own (unhide HBB) (fun q e => by cases e)))
          have hcb : ¬ gc = gb := fun e => hbc e.symm
          have hgcw := (unhide HD0).lt
          replace HNL := hide (noLink_kept (unhide HNL) (unhide HKS) hgcw hcb)
          replace HD0 := hide ((unhide HD0).kept (unhide HKS) hcb)
          go_simp
          rw [← ews]
          clear rf0 rf1 r0 r1 hWB ews HBB HKS
          refine hK.out _ _ ⟨(unhide HB).cell (i := 0) rfl, (unhide HB).cell (i := 1) rfl⟩ (fun hHeld => ?_)
          clear hK K
          try simp only [Act.put, List.setIfInBounds_toArray, List.set_cons_zero, List.set_cons_succ]
          refine wpAnyH_take (i := 7) (v := ?_) rfl (by kernel_rfl) (by kernel_rfl) (by kernel_rfl) (fun _ _ _ h => h) (Or.inl ⟨by rfl, ?_⟩) (by assumption) ?_
          rotate_left
          · intro wy hSw
            obtain ⟨hS0, hS1⟩ := hSw
            go_simp
            try with_reducible rfl
          try simp only [Act.put, List.getElem_toArray, List.getElem_cons_succ, List.getElem_cons_zero, List.setIfInBounds_toArray, List.set_cons_zero, List.set_cons_succ]
          refine wpAnyH_take (i := 8) (v := ?_) rfl (by kernel_rfl) (by kernel_rfl) (by kernel_rfl) (fun _ _ _ h => h) (Or.inl ⟨by rfl, ?_⟩) (by assumption) ?_
          rotate_left
          · intro wy hSw
            obtain ⟨hS0, hS1⟩ := hSw
            go_simp
            try with_reducible rfl
          try simp only [Act.put, List.getElem_toArray, List.getElem_cons_succ, List.getElem_cons_zero, List.setIfInBounds_toArray, List.set_cons_zero, List.set_cons_succ]
          refine wpAnyH_done (by kernel_rfl) ?_ _
          go_wp2_with fail
          go_meet
          exact ⟨gb, g', gc, Z', rfl, rfl, rfl, hgb, hgc, hbc, HW, HA, HBN, HN, HD0, HNL⟩
        · go_simp
          obtain ⟨gb, egb⟩ : ∃ z, z = v4.heap.size := ⟨_, rfl⟩
          have hgb : g0 + 1 < gb := by rw [egb]; exact hlv4
          have hbc : gb ≠ gc := by have h1 := (unhide HD0).lt; omega
          obtain ⟨v54, ew⟩ : ∃ z, z = v4.alloc (.cells #[.int .i64 0, .slice none 0 0] 73) := ⟨_, rfl⟩
          have hb : Below v4.heap.size v4 v54 := by rw [ew]; exact Below.alloc1 _ _
          have hlv54 := Nat.lt_of_lt_of_le hlv4 hb.size
          have HBB' : Hid (OwnV v54 gb [.int .i64 0, .slice none 0 0]) := by rw [ew, egb]; exact ownV_alloc _ _ _
          rw [← ew, ← egb]
          replace HW := hide (Below.step (unhide HW) hb)
          replace HB := hide ((unhide HB).step hb)
          replace HA := hide ((unhide HA).step hb)
          have hgcw := (unhide HD0).lt
          replace HNL := hide (noLink_kept (T := fun _ => False) (unhide HNL) (kept_of_below hb) hgcw id)
          clear hgcw
          replace HD0 := hide ((unhide HD0).step hb)
          have HBB := HBB'
          clear hb ew egb HBB'
          refine hK.out _ _ ⟨(unhide HB).cell (i := 0) rfl, (unhide HB).cell (i := 1) rfl⟩ (fun hHeld => ?_)
          clear hK K
          try simp only [Act.put, List.setIfInBounds_toArray, List.set_cons_zero, List.set_cons_succ]
          refine wpAnyH_ready (rs := [1]) (by kernel_rfl) (by simp) ?_
          refine AllReadyH.cons rfl (fun K hK => ?_) (AllReadyH.nil)
          go_simp
          have HCQ := hide (unhide HBG (unhide HY) v54 (unhide HW))
          refine (unhide HCQ).mono ?_
          rintro e v145 ⟨g', Z', rfl, hg1, hG1, hb⟩
          have hlv145 := Nat.lt_of_lt_of_le hlv54 hb.size
          replace HW := hide (Below.step (unhide HW) hb)
          replace HB := hide ((unhide HB).step hb)
          replace HA := hide ((unhide HA).step hb)
          have hgcw := (unhide HD0).lt
          replace HNL := hide (noLink_kept (T := fun _ => False) (unhide HNL) (kept_of_below hb) hgcw id)
          clear hgcw
          replace HD0 := hide ((unhide HD0).step hb)
          replace HBB := hide ((unhide HBB).step hb)
          have HN := hide hG1
          clear hG1 hb HCQ
          refine hK.out _ _ ⟨(unhide HB).cell (i := 0) rfl, (unhide HB).cell (i := 1) rfl⟩ (fun hHeld => ?_)
          clear hK K
          try simp only [Act.put, List.setIfInBounds_toArray, List.set_cons_zero, List.set_cons_succ]
          refine wpAnyH_ready (rs := [6]) (by kernel_rfl) (by simp) ?_
          refine AllReadyH.cons rfl (fun K hK => ?_) (AllReadyH.nil)
          obtain ⟨v6451, ews⟩ : ∃ z, z = (v145.setCell ⟨gb, 0, none⟩ (.int .i64 H)).setCell ⟨gb, 1, none⟩ (.slice (some ⟨g', 0, none⟩) R.length R.length) := ⟨_, rfl⟩
          have rf0 := (unhide HBB).frozen 0
          have rf1 := (unhide HBB).frozen 1
          have r0 := (unhide HBB).cell (i := 0) rfl
          have r1 := (unhide HBB).cell (i := 1) rfl
          have HBN : Hid (OwnV v6451 gb [.int .i64 H, .slice (some ⟨g', 0, none⟩) R.length R.length]) := by rw [ews]; exact ((unhide HBB).set 0 (.int .i64 H) (by simp)).set 1 (.slice (some ⟨g', 0, none⟩) R.length R.length) (by simp)
          have HKS : Hid (Kept (fun b => b = gb) v145 v6451) := by rw [ews]; exact ((Kept.refl (fun b => b = gb) _).setCell (p := ⟨gb, 0, none⟩) rfl _).setCell (p := ⟨gb, 1, none⟩) rfl _
          have hlv6451 := Nat.lt_of_lt_of_le hlv145 (unhide HKS).size
          have hng : g' ≠ gb := gnd_ne (unhide HN) (by rw [pilF_len]; omega) (unhide HBB)
          have hWB := unhide HW
          replace HW := hide (below_kept hWB (unhide HKS) hWB.size (fun b e => by omega))
          replace HB := hide ((unhide HB).kept (unhide HKS) (by omega))
          replace HA := hide ((unhide HA).kept (unhide HKS) (by omega))
          replace HN := hide ((unhide HN).kept (unhide HKS) hng (fun k e => e ▸ noLink_own (unhide HBB) (fun q e => by cases e)))
          have hcb : ¬ gc = gb := fun e => hbc e.symm
          have hgcw := (unhide HD0).lt
          replace HNL := hide (noLink_kept (unhide HNL) (unhide HKS) hgcw hcb)
          replace HD0 := hide ((unhide HD0).kept (unhide HKS) hcb)
          go_simp
          rw [← ews]
          clear rf0 rf1 r0 r1 hWB ews HBB HKS
          refine hK.out _ _ ⟨(unhide HB).cell (i := 0) rfl, (unhide HB).cell (i := 1) rfl⟩ (fun hHeld => ?_)
          clear hK K
          try simp only [Act.put, List.setIfInBounds_toArray, List.set_cons_zero, List.set_cons_succ]
          refine wpAnyH_take (i := 7) (v := ?_) rfl (by kernel_rfl) (by kernel_rfl) (by kernel_rfl) (fun _ _ _ h => h) (Or.inl ⟨by rfl, ?_⟩) (by assumption) ?_
          rotate_left
          · intro wy hSw
            obtain ⟨hS0, hS1⟩ := hSw
            go_simp
            try with_reducible rfl
          try simp only [Act.put, List.getElem_toArray, List.getElem_cons_succ, List.getElem_cons_zero, List.setIfInBounds_toArray, List.set_cons_zero, List.set_cons_succ]
          refine wpAnyH_take (i := 8) (v := ?_) rfl (by kernel_rfl) (by kernel_rfl) (by kernel_rfl) (fun _ _ _ h => h) (Or.inl ⟨by rfl, ?_⟩) (by assumption) ?_
          rotate_left
          · intro wy hSw
            obtain ⟨hS0, hS1⟩ := hSw
            go_simp
            try with_reducible rfl
          try simp only [Act.put, List.getElem_toArray, List.getElem_cons_succ, List.getElem_cons_zero, List.setIfInBounds_toArray, List.set_cons_zero, List.set_cons_succ]
          refine wpAnyH_done (by kernel_rfl) ?_ _
          go_wp2_with fail
          go_meet
          exact ⟨gb, g', gc, Z', rfl, rfl, rfl, hgb, hgc, hbc, HW, HA, HBN, HN, HD0, HNL⟩
      · go_simp
        obtain ⟨gb, egb⟩ : ∃ z, z = wd.heap.size := ⟨_, rfl⟩
        have hgb : g0 + 1 < gb := by rw [egb]; exact hlwd
        obtain ⟨v5, ew⟩ : ∃ z, z = wd.alloc (.cells #[.int .i64 0, .slice none 0 0] 73) := ⟨_, rfl⟩
        have hb : Below wd.heap.size wd v5 := by rw [ew]; exact Below.alloc1 _ _
        have hlv5 := Nat.lt_of_lt_of_le hlwd hb.size
        have HBB' : Hid (OwnV v5 gb [.int .i64 0, .slice none 0 0]) := by rw [ew, egb]; exact ownV_alloc _ _ _
        rw [← ew, ← egb]
        replace HW := hide (Below.step (unhide HW) hb)
        replace HB := hide ((unhide HB).step hb)
        replace HA := hide ((unhide HA).step hb)
        have HBB := HBB'
        clear hb ew egb HBB'
        refine hK.out _ _ ⟨(unhide HB).cell (i := 0) rfl, (unhide HB).cell (i := 1) rfl⟩ (fun hHeld => ?_)
        clear hK K
        try simp only [Act.put, List.setIfInBounds_toArray, List.set_cons_zero, List.set_cons_succ]
        refine wpAnyH_ready (rs := [1, 4]) (by kernel_rfl) (by simp) ?_
        refine AllReadyH.cons rfl (fun K hK => ?_) (AllReadyH.cons rfl (fun K hK => ?_) (AllReadyH.nil))
        · go_simp
          have HCQ := hide (unhide HBG (unhide HY) v5 (unhide HW))
          refine (unhide HCQ).mono ?_
          rintro e v15 ⟨g', Z', rfl, hg1, hG1, hb⟩
          have hlv15 := Nat.lt_of_lt_of_le hlv5 hb.size
          replace HW := hide (Below.step (unhide HW) hb)
          replace HB := hide ((unhide HB).step hb)
          replace HA := hide ((unhide HA).step hb)
          replace HBB := hide ((unhide HBB).step hb)
          have HN := hide hG1
          clear hG1 hb HCQ
          refine hK.out _ _ ⟨(unhide HB).cell (i := 0) rfl, (unhide HB).cell (i := 1) rfl⟩ (fun hHeld => ?_)
          clear hK K
          try simp only [Act.put, List.setIfInBounds_toArray, List.set_cons_zero, List.set_cons_succ]
          refine wpAnyH_ready (rs := [4, 6]) (by kernel_rfl) (by simp) ?_
          refine AllReadyH.cons rfl (fun K hK => ?_) (AllReadyH.cons rfl (fun K hK => ?_) (AllReadyH.nil))
          · go_simp
            obtain ⟨gc, egc⟩ : ∃ z, z = v15.heap.size := ⟨_, rfl⟩
            have hgc : g0 + 1 < gc := by rw [egc]; exact hlv15
            have hbc : gb ≠ gc := by have h1 := (unhide HBB).lt; omega
            obtain ⟨v451, ew⟩ : ∃ z, z = v15.alloc (.cells (madeCells #[.int .i64 0] L.length) 3) := ⟨_, rfl⟩
            have hb : Below v15.heap.size v15 v451 := by rw [ew]; exact Below.alloc1 _ _
            have hlv451 := Nat.lt_of_lt_of_le hlv15 hb.size
            have HD0' : Hid (OwnV v451 gc (ints (List.replicate L.length 0))) := by rw [ew, egc, ← made_ints]; exact ownV_alloc _ _ _
            have HNL' : Hid (NoLink v451 gc) := by rw [ew, egc]; exact noLink_made _ _ _
            rw [← ew, ← egc]
            replace HW := hide (Below.step (unhide HW) hb)
            replace HB := hide ((unhide HB).step hb)
            replace HA := hide ((unhide HA).step hb)
            replace HN := hide ((unhide HN).below hb)
            replace HBB := hide ((unhide HBB).step hb)
            have HD0 := HD0'
            have HNL := HNL'
            clear hb ew egc HD0' HNL'
            refine hK.out _ _ ⟨(unhide HB).cell (i := 0) rfl, (unhide HB).cell (i := 1) rfl⟩ (fun hHeld => ?_)
            clear hK K
            try simp only [Act.put, List.setIfInBounds_toArray, List.set_cons_zero, List.set_cons_succ]
            refine wpAnyH_ready (rs := [6]) (by kernel_rfl) (by simp) ?_
            refine AllReadyH.cons rfl (fun K hK => ?_) (AllReadyH.nil)
            obtain ⟨v6514, ews⟩ : ∃ z, z = (v451.setCell ⟨gb, 0, none⟩ (.int .i64 H)).setCell ⟨gb, 1, none⟩ (.slice (some ⟨g', 0, none⟩) R.length R.length) := ⟨_, rfl⟩
            have rf0 := (unhide HBB).frozen 0
            have rf1 := (unhide HBB).frozen 1
            have r0 := (unhide HBB).cell (i := 0) rfl
            have r1 := (unhide HBB).cell (i := 1) rfl
            have HBN : Hid (OwnV v6514 gb [.int .i64 H, .slice (some ⟨g', 0, none⟩) R.length R.length]) := by rw [ews]; exact ((unhide HBB).set 0 (.int .i64 H) (by simp)).set 1 (.slice (some ⟨g', 0, none⟩) R.length R.length) (by simp)
            have HKS : Hid (Kept (fun b => b = gb) v451 v6514) := by rw [ews]; exact ((Kept.refl (fun b => b = gb) _).setCell (p := ⟨gb, 0, none⟩) rfl _).setCell (p := ⟨gb, 1, none⟩) rfl _
            have hlv6514 := Nat.lt_of_lt_of_le hlv451 (unhide HKS).size
            have hng : g' ≠ gb := gnd_ne (unhide HN) (by rw [pilF_len]; omega) (unhide HBB)
            have hWB := unhide HW
            replace HW := hide (below_kept hWB (unhide HKS) hWB.size (fun b e => by omega))
            replace HB := hide ((unhide HB).kept (unhide HKS) (by omega))
            replace HA := hide ((unhide HA).kept (unhide HKS) (by omega))
            replace HN := hide ((unhide HN).kept (unhide HKS) hng (fun k e => e ▸ noLink_own (unhide HBB) (fun q e => by cases e)))
            have hcb : ¬ gc = gb := fun e => hbc e.symm
            have hgcw := (unhide HD0).lt
            replace HNL := hide (noLink_kept (unhide HNL) (unhide HKS) hgcw hcb)
            replace HD0 := hide ((unhide HD0).kept (unhide HKS) hcb)
            go_simp
            rw [← ews]
            clear rf0 rf1 r0 r1 hWB ews HBB HKS
            refine hK.out _ _ ⟨(unhide HB).cell (i := 0) rfl, (unhide HB).cell (i := 1) rfl⟩ (fun hHeld => ?_)
            clear hK K
            try simp only [Act.put, List.setIfInBounds_toArray, List.set_cons_zero, List.set_cons_succ]
            refine wpAnyH_take (i := 7) (v := ?_) rfl (by kernel_rfl) (by kernel_rfl) (by kernel_rfl) (fun _ _ _ h => h) (Or.inl ⟨by rfl, ?_⟩) (by assumption) ?_
            rotate_left
            · intro wy hSw
              obtain ⟨hS0, hS1⟩ := hSw
              go_simp
              try with_reducible rfl
            try simp only [Act.put, List.getElem_toArray, List.getElem_cons_succ, List.getElem_cons_zero, List.setIfInBounds_toArray, List.set_cons_zero, List.set_cons_succ]
            refine wpAnyH_take (i := 8) (v := ?_) rfl (by kernel_rfl) (by kernel_rfl) (by kernel_rfl) (fun _ _ _ h => h) (Or.inl ⟨by rfl, ?_⟩) (by assumption) ?_
            rotate_left
            · intro wy hSw
              obtain ⟨hS0, hS1⟩ := hSw
              go_simp
              try with_reducible rfl
            try simp only [Act.put, List.getElem_toArray, List.getElem_cons_succ, List.getElem_cons_zero, List.setIfInBounds_toArray, List.set_cons_zero, List.set_cons_succ]
            refine wpAnyH_done (by kernel_rfl) ?_ _
            go_wp2_with fail
            go_meet
            exact ⟨gb, g', gc, Z', rfl, rfl, rfl, hgb, hgc, hbc, HW, HA, HBN, HN, HD0, HNL⟩
          · obtain ⟨v651, ews⟩ : ∃ z, z = (v15.setCell ⟨gb, 0, none⟩ (.int .i64 H)).setCell ⟨gb, 1, none⟩ (.slice (some ⟨g', 0, none⟩) R.length R.length) := ⟨_, rfl⟩
            have rf0 := (unhide HBB).frozen 0
            have rf1 := (unhide HBB).frozen 1
            have r0 := (unhide HBB).cell (i := 0) rfl
            have r1 := (unhide HBB).cell (i := 1) rfl
            have HBN : Hid (OwnV v651 gb [.int .i64 H, .slice (some ⟨g', 0, none⟩) R.length R.length]) := by rw [ews]; exact ((unhide HBB).set 0 (.int .i64 H) (by simp)).set 1 (.slice (some ⟨g', 0, none⟩) R.length R.length) (by simp)
            have HKS : Hid (Kept (fun b => b = gb) v15 v651) := by rw [ews]; exact ((Kept.refl (fun b => b = gb) _).setCell (p := ⟨gb, 0, none⟩) rfl _).setCell (p := ⟨gb, 1, none⟩) rfl _
            have hlv651 := Nat.lt_of_lt_of_le hlv15 (unhide HKS).size
            have hng : g' ≠ gb := gnd_ne (unhide HN) (by rw [pilF_len]; omega) (unhide HBB)
            have hWB := unhide HW
            replace HW := hide (below_kept hWB (unhide HKS) hWB.size (fun b e => by omega))
            replace HB := hide ((unhide HB).kept (unhide HKS) (by omega))
            replace HA := hide ((unhide HA).kept (unhide HKS) (by omega))
            replace HN := hide ((unhide HN).kept (unhide HKS) hng (fun k e => e ▸ noLink_own (unhide HBB) (fun q e => by cases e)))
            go_simp
            rw [← ews]
            clear rf0 rf1 r0 r1 hWB ews HBB HKS
            refine hK.out _ _ ⟨(unhide HB).cell (i := 0) rfl, (unhide HB).cell (i := 1) rfl⟩ (fun hHeld => ?_)
            clear hK K
            try simp only [Act.put, List.setIfInBounds_toArray, List.set_cons_zero, List.set_cons_succ]
            refine wpAnyH_ready (rs := [4]) (by kernel_rfl) (by simp) ?_
            refine AllReadyH.cons rfl (fun K hK => ?_) (AllReadyH.nil)
            go_simp
            obtain ⟨gc, egc⟩ : ∃ z, z = v651.heap.size := ⟨_, rfl⟩
            have hgc : g0 + 1 < gc := by rw [egc]; exact hlv651
            have hbc : gb ≠ gc := by have h1 := (unhide HBN).lt; omega
            obtain ⟨v4516, ew⟩ : ∃ z, z = v651.alloc (.cells (madeCells #[.int .i64 0] L.length) 3) := ⟨_, rfl⟩
            have hb : Below v651.heap.size v651 v4516 := by rw [ew]; exact Below.alloc1 _ _
            have hlv4516 := Nat.lt_of_lt_of_le hlv651 hb.size
            have HD0' : Hid (OwnV v4516 gc (ints (List.replicate L.length 0))) := by rw [ew, egc, ← made_ints]; exact ownV_alloc _ _ _
            have HNL' : Hid (NoLink v4516 gc) := by rw [ew, egc]; exact noLink_made _ _ _
            rw [← ew, ← egc]
            replace HW := hide (Below.step (unhide HW) hb)
            replace HB := hide ((unhide HB).step hb)
            replace HA := hide ((unhide HA).step hb)
            replace HN := hide ((unhide HN).below hb)
            replace HBN := hide ((unhide HBN).step hb)
            have HD0 := HD0'
            have HNL := HNL'
            clear hb ew egc HD0' HNL'
            refine hK.out _ _ ⟨(unhide HB).cell (i := 0) rfl, (unhide HB).cell (i := 1) rfl⟩ (fun hHeld => ?_)
            clear hK K
            try simp only [Act.put, List.setIfInBounds_toArray, List.set_cons_zero, List.set_cons_succ]
            refine wpAnyH_take (i := 7) (v := ?_) rfl (by kernel_rfl) (by kernel_rfl) (by kernel_rfl) (fun _ _ _ h => h) (Or.inl ⟨by rfl, ?_⟩) (by assumption) ?_
            rotate_left
            · intro wy hSw
              obtain ⟨hS0, hS1⟩ := hSw
              go_simp
              try with_reducible rfl
            try simp only [Act.put, List.getElem_toArray, List.getElem_cons_succ, List.getElem_cons_zero, List.setIfInBounds_toArray, List.set_cons_zero, List.set_cons_succ]
            refine wpAnyH_take (i := 8) (v := ?_) rfl (by kernel_rfl) (by kernel_rfl) (by kernel_rfl) (fun _ _ _ h => h) (Or.inl ⟨by rfl, ?_⟩) (by assumption) ?_
            rotate_left
            · intro wy hSw
              obtain ⟨hS0, hS1⟩ := hSw
              go_simp
              try with_reducible rfl
            try simp only [Act.put, List.getElem_toArray, List.getElem_cons_succ, List.getElem_cons_zero, List.setIfInBounds_toArray, List.set_cons_zero, List.set_cons_succ]
            refine wpAnyH_done (by kernel_rfl) ?_ _
            go_wp2_with fail
            go_meet
            exact ⟨gb, g', gc, Z', rfl, rfl, rfl, hgb, hgc, hbc, HW, HA, HBN, HN, HD0, HNL⟩
        · go_simp
          obtain ⟨gc, egc⟩ : ∃ z, z = v5.heap.size := ⟨_, rfl⟩
          have hgc : g0 + 1 < gc := by rw [egc]; exact hlv5
          have hbc : gb ≠ gc := by have h1 := (unhide HBB).lt; omega
          obtain ⟨v45, ew⟩ : ∃ z, z = v5.alloc (.cells (madeCells #[.int .i64 0] L.length) 3) := ⟨_, rfl⟩
          have hb : Below v5.heap.size v5 v45 := by rw [ew]; exact Below.alloc1 _ _
          have hlv45 := Nat.lt_of_lt_of_le hlv5 hb.size
          have HD0' : Hid (OwnV v45 gc (ints (List.replicate L.length 0))) := by rw [ew, egc, ← made_ints]; exact ownV_alloc _ _ _
          have HNL' : Hid (NoLink v45 gc) := by rw [ew, egc]; exact noLink_made _ _ _
          rw [← ew, ← egc]
          replace HW := hide (Below.step (unhide HW) hb)
          replace HB := hide ((unhide HB).step hb)
          replace HA := hide ((unhide HA).step hb)
          replace HBB := hide ((unhide HBB).step hb)
          have HD0 := HD0'
          have HNL := HNL'
          clear hb ew egc HD0' HNL'
          refine hK.out _ _ ⟨(unhide HB).cell (i := 0) rfl, (unhide HB).cell (i := 1) rfl⟩ (fun hHeld => ?_)
          clear hK K
          try simp only [Act.put, List.setIfInBounds_toArray, List.set_cons_zero, List.set_cons_succ]
          refine wpAnyH_ready (rs := [1]) (by kernel_rfl) (by simp) ?_
          refine AllReadyH.cons rfl (fun K hK => ?_) (AllReadyH.nil)
          go_simp
          have HCQ := hide (unhide HBG (unhide HY) v45 (unhide HW))
          refine (unhide HCQ).mono ?_
          rintro e v154 ⟨g', Z', rfl, hg1, hG1, hb⟩
          have hlv154 := Nat.lt_of_lt_of_le hlv45 hb.size
          replace HW := hide (Below.step (unhide HW) hb)
          replace HB := hide ((unhide HB).step hb)
          replace HA := hide ((unhide HA).step hb)
          have hgcw := (unhide HD0).lt
          replace HNL := hide (noLink_kept (T := fun _ => False) (unhide HNL) (kept_of_below hb) hgcw id)
          clear hgcw
          replace HD0 := hide ((unhide HD0).step hb)
          replace HBB := hide ((unhide HBB).step hb)
          have HN := hide hG1
          clear hG1 hb HCQ
          refine hK.out _ _ ⟨(unhide HB).cell (i := 0) rfl, (unhide HB).cell (i := 1) rfl⟩ (fun hHeld => ?_)
          clear hK K
          try simp only [Act.put, List.setIfInBounds_toArray, List.set_cons_zero, List.set_cons_succ]
          refine wpAnyH_ready (rs := [6]) (by kernel_rfl) (by simp) ?_
          refine AllReadyH.cons rfl (fun K hK => ?_) (AllReadyH.nil)
          obtain ⟨v6541, ews⟩ : ∃ z, z = (v154.setCell ⟨gb, 0, none⟩ (.int .i64 H)).setCell ⟨gb, 1, none⟩ (.slice (some ⟨g', 0, none⟩) R.length R.length) := ⟨_, rfl⟩
          have rf0 := (unhide HBB).frozen 0
          have rf1 := (unhide HBB).frozen 1
          have r0 := (unhide HBB).cell (i := 0) rfl
          have r1 := (unhide HBB).cell (i := 1) rfl
          have HBN : Hid (OwnV v6541 gb [.int .i64 H, .slice (some ⟨g', 0, none⟩) R.length R.length]) := by rw [ews]; exact ((unhide HBB).set 0 (.int .i64 H) (by simp)).set 1 (.slice (some ⟨g', 0, none⟩) R.length R.length) (by simp)
          have HKS : Hid (Kept (fun b => b = gb) v154 v6541) := by rw [ews]; exact ((Kept.refl (fun b => b = gb) _).setCell (p := ⟨gb, 0, none⟩) rfl _).setCell (p := ⟨gb, 1, none⟩) rfl _
          have hlv6541 := Nat.lt_of_lt_of_le hlv154 (unhide HKS).size
          have hng : g' ≠ gb := gnd_ne (unhide HN) (by rw [pilF_len]; omega) (unhide HBB)
          have hWB := unhide HW
          replace HW := hide (below_kept hWB (unhide HKS) hWB.size (fun b e => by omega))
          replace HB := hide ((unhide HB).kept (unhide HKS) (by omega))
          replace HA := hide ((unhide HA).kept (unhide HKS) (by omega))
          replace HN := hide ((unhide HN).kept (unhide HKS) hng (fun k e => e ▸ noLink_own (unhide HBB) (fun q e => by cases e)))
          have hcb : ¬ gc = gb := fun e => hbc e.symm
          have hgcw := (unhide HD0).lt
          replace HNL := hide (noLink_kept (unhide HNL) (unhide HKS) hgcw hcb)
          replace HD0 := hide ((unhide HD0).kept (unhide HKS) hcb)
          go_simp
          rw [← ews]
          clear rf0 rf1 r0 r1 hWB ews HBB HKS
          refine hK.out _ _ ⟨(unhide HB).cell (i := 0) rfl, (unhide HB).cell (i := 1) rfl⟩ (fun hHeld => ?_)
          clear hK K
          try simp only [Act.put, List.setIfInBounds_toArray, List.set_cons_zero, List.set_cons_succ]
          refine wpAnyH_take (i := 7) (v := ?_) rfl (by kernel_rfl) (by kernel_rfl) (by kernel_rfl) (fun _ _ _ h => h) (Or.inl ⟨by rfl, ?_⟩) (by assumption) ?_
          rotate_left
          · intro wy hSw
            obtain ⟨hS0, hS1⟩ := hSw
            go_simp
            try with_reducible rfl
          try simp only [Act.put, List.getElem_toArray, List.getElem_cons_succ, List.getElem_cons_zero, List.setIfInBounds_toArray, List.set_cons_zero, List.set_cons_succ]
          refine wpAnyH_take (i := 8) (v := ?_) rfl (by kernel_rfl) (by kernel_rfl) (by kernel_rfl) (fun _ _ _ h => h) (Or.inl ⟨by rfl, ?_⟩) (by assumption) ?_
          rotate_left
          · intro wy hSw
            obtain ⟨hS0, hS1⟩ := hSw
            go_simp
            try with_reducible rfl
          try simp only [Act.put, List.getElem_toArray, List.getElem_cons_succ, List.getElem_cons_zero, List.setIfInBounds_toArray, List.set_cons_zero, List.set_cons_succ]
          refine wpAnyH_done (by kernel_rfl) ?_ _
          go_wp2_with fail
          go_meet
          exact ⟨gb, g', gc, Z', rfl, rfl, rfl, hgb, hgc, hbc, HW, HA, HBN, HN, HD0, HNL⟩
    case rest =>
      clear HW HB HA hmk
      obtain ⟨gb, g', gc, Z', rfl, rfl, rfl, hgb, hgc, hbc, HW, HA, HC, HN, HD0, HNL⟩ := hcut
      rw [← cdR_zero H R L L.length] at HD0
      go_wp2
      go_loopg [9, 34] L.length (fun gh av iv wr => ∃ (k : Nat) (g2 : Nat) (Z2 : List (Option Addr × Nat)), k ≤ L.length ∧ gh = L.length - k ∧ iv = .int .i64 k ∧ av = .int .i64 (stY H R L k).2 ∧ Hid (Below w.heap.size w wr) ∧ Hid (OwnV wr (g0 + 1) [.int .i64 0, .slice none 0 0]) ∧ Hid (OwnV wr gb [.int .i64 H, .slice (some ⟨g2, 0, none⟩) R.length R.length]) ∧ Hid (Gnd wr g2 Z2 (pilF idF (stY H R L k).1)) ∧ Hid (OwnV wr gc (ints (cdR H R L L.length k))) ∧ Hid (NoLink wr gc))
      case atStart => exact ⟨0, g', Z', Nat.zero_le _, rfl, rfl, rfl, HW, HA, HC, HN, HD0, HNL⟩
      case round =>
        clear HW HA HC HN HD0 HNL
        obtain ⟨k, g2, Z2, hk, rfl, rfl, rfl, HW, HA, HC, HN, HDC, HNL⟩ := hrel
        by_cases hkn : k < L.length
        · have hki : (k : Int) < (L.length : Int) := by omega
          obtain ⟨ao2, cap2, e2, -, -, hrec⟩ := (unhide HVO).below (unhide HW)
          simp only [Value.slice.injEq] at e2
          obtain ⟨rfl, -, rfl⟩ := e2
          obtain ⟨bo, of, x0, x1, x2, eo, y0, y1, y2, EX⟩ := recYardOpAt hrec hkn
          subst eo
          have hyk := st_ok (unhide HY) L k
          have hkl := st_len H R L k
          have HBH := hide fun g Z W (h : Gnd W g Z (pilF idF (stY H R L k).1)) => behindYardOp_any H x0 x1 x2 g Z (stY H R L k).1 W h hyk
          rw [hkl] at HBH
          have HSU : Hid (stY H R L (k + 1) = ((doY H (stY H R L k).1 x0 x1 x2).1, (stY H R L k).2 + (doY H (stY H R L k).1 x0 x1 x2).2.1)) := by
            show _ = _
            simp only [stY]
            rw [unhide EX]
          have HCU : Hid (cdY H R L k = (doY H (stY H R L k).1 x0 x1 x2).2.2) := by
            show _ = _
            simp only [cdY]
            rw [unhide EX]
          have hmb := st_many (H := H) (R := R) L k
          have hdb := do_many (H := H) (R := (stY H R L k).1) x0 x1 x2
          obtain ⟨sm, esm⟩ : ∃ z, z = (stY H R L k).2 := ⟨_, rfl⟩
          obtain ⟨⟨E1, E2, E3⟩, eE⟩ : ∃ E, E = doY H (stY H R L k).1 x0 x1 x2 := ⟨_, rfl⟩
          rw [← eE] at HBH HSU HCU hdb
          rw [← esm] at HSU hmb ⊢
          dsimp only at HBH HSU HCU hdb
          unfold gndV vYardOp at HBH
          clear eE esm hyk hkl hrec
          go_upto_region 9 with (fail)
          obtain ⟨gp, egp⟩ : ∃ z, z = wr.heap.size := ⟨_, rfl⟩
          obtain ⟨W5, eW⟩ : ∃ z, z = wr.alloc (.cells #[.int .i64 x0, .int .i64 x1, .int .i64 x2] 34) := ⟨_, rfl⟩
          have hb : Below wr.heap.size wr W5 := by rw [eW]; exact Below.alloc1 _ _
          have HP : Hid (OwnV W5 gp [.int .i64 x0, .int .i64 x1, .int .i64 x2]) := by rw [eW, egp]; exact ownV_alloc _ _ _
          rw [← eW, ← egp]
          replace HW := hide (Below.step (unhide HW) hb)
          replace HA := hide ((unhide HA).step hb)
          replace HC := hide ((unhide HC).step hb)
          replace HN := hide ((unhide HN).below hb)
          have hgcw := (unhide HDC).lt
          replace HNL := hide (noLink_kept (T := fun _ => False) (unhide HNL) (kept_of_below hb) hgcw id)
          replace HDC := hide ((unhide HDC).step hb)
          clear hgcw
          clear hb eW egp y0 y1 y2
          have c0 := (unhide HC).cell (i := 0) rfl
          have c1 := (unhide HC).cell (i := 1) rfl
          have p0 := (unhide HP).cell (i := 0) rfl
          have p1 := (unhide HP).cell (i := 1) rfl
          have p2 := (unhide HP).cell (i := 2) rfl
          go_wp2_with fail
          refine (unhide HBH _ _ _ (unhide HN)).mono ?_
          rintro e w6 ⟨g3, Z3, rfl, hG3, hb⟩
          have hgp3 : g3 ≠ gb := gnd_ne hG3 (by have h1 := congrArg List.length (congrArg Prod.fst (unhide HSU)); dsimp only at h1; rw [st_len] at h1; rw [pilF_len]; omega) ((unhide HC).step hb)
          replace HW := hide (Below.step (unhide HW) hb)
          replace HA := hide ((unhide HA).step hb)
          replace HC := hide ((unhide HC).step hb)
          have hgcw := (unhide HDC).lt
          replace HNL := hide (noLink_kept (T := fun _ => False) (unhide HNL) (kept_of_below hb) hgcw id)
          replace HDC := hide ((unhide HDC).step hb)
          clear hgcw
          have HN3 := hide hG3
          have hgc3 : g3 ≠ gc := by
            by_cases e : L.length = 0
            · omega
            · have h1 := unhide HDC
              intro e2
              subst e2
              have h2 := hG3.top.cell (recCells_get (n := 2) (enc := ePl) (L := Z3) (i := 0) (j := 0) (by rw [hG3.len]; have h1 := congrArg List.length (congrArg Prod.fst (unhide HSU)); dsimp only at h1; rw [st_len] at h1; rw [pilF_len]; omega) (by omega))
              simp only [Nat.zero_mul, Nat.add_zero] at h2
              have h3 := h1.cell (ints_get (cdR H R L L.length k) (show 0 < (cdR H R L L.length k).length by rw [cdR_len hk]; omega))
              rw [h2] at h3
              simp [ePl] at h3
          clear hb hG3 c0 c1 p0 p1 p2 HN HP
          have hdl : k < (cdR H R L L.length k).length := by rw [cdR_len hk]; exact hkn
          have q0 := (unhide HC).cell (i := 0) rfl
          have q1 := (unhide HC).cell (i := 1) rfl
          have qf0 := (unhide HC).frozen 0
          have qf1 := (unhide HC).frozen 1
          obtain ⟨u0, hu0⟩ : ∃ z, w6.cell? ⟨gc, k, none⟩ = some (.int .i64 z) := ⟨_, (unhide HDC).cell (ints_get _ hdl)⟩
          have huf := (unhide HDC).frozen k
          have hcb : ¬ gc = gb := fun e => hbc e.symm
          have hK1 : Kept (fun b => b = gb) w6 ((w6.setCell ⟨gb, 0, none⟩ (.int .i64 H)).setCell ⟨gb, 1, none⟩ (.slice (some ⟨g3, 0, none⟩) R.length R.length)) := ((Kept.refl (fun b => b = gb) _).setCell (p := ⟨gb, 0, none⟩) rfl _).setCell (p := ⟨gb, 1, none⟩) rfl _
          have hC1 := ((unhide HC).set 0 (.int .i64 H) (by simp)).set 1 (.slice (some ⟨g3, 0, none⟩) R.length R.length) (by simp)
          obtain ⟨w7, ew7⟩ : ∃ z, z = (w6.setCell ⟨gb, 0, none⟩ (.int .i64 H)).setCell ⟨gb, 1, none⟩ (.slice (some ⟨g3, 0, none⟩) R.length R.length) := ⟨_, rfl⟩
          rw [← ew7] at hK1 hC1
          have hgcl := (unhide HDC).lt
          have HDC1 := hide ((unhide HDC).kept hK1 hcb)
          have hu1 : w7.cell? ⟨gc, k, none⟩ = some (.int .i64 u0) := (World.cell?_of_block (hK1.block gc hgcl hcb)).trans hu0
          have HNL1 := hide (noLink_kept (unhide HNL) hK1 hgcl hcb)
          have hNB := noLink_own (unhide HC) (fun q e => by cases e)
          have HN4 := hide ((unhide HN3).kept hK1 hgp3 (fun k e => e ▸ hNB))
          have hK2 : Kept (fun b => b = gc) w7 (w7.setCell ⟨gc, k, none⟩ (.int .i64 E3)) := (Kept.refl (fun b => b = gc) _).setCell (p := ⟨gc, k, none⟩) rfl _
          have HNL2 := hide (noLink_set (v := E3) (unhide HNL1) hu1)
          have HN5 := hide ((unhide HN4).kept hK2 hgc3 (fun k e => e ▸ unhide HNL1))
          have hdset := (unhide HDC1).set k (.int .i64 E3) (by rw [ints_length]; exact hdl)
          have e5 : (ints (cdR H R L L.length k)).set k (.int .i64 E3) = ints (cdR H R L L.length (k + 1)) := by
            rw [← cdR_set hkn, unhide HCU]; simp [ints, List.map_set]
          rw [e5] at hdset
          have HDC2 := hide hdset
          have HC2 := hide (hC1.kept hK2 (fun e => hbc e))
          have HA2 := hide (((unhide HA).kept hK1 (by omega)).kept hK2 (by omega))
          have hWB := unhide HW
          have HW2 := hide (below_kept (below_kept hWB hK1 hWB.size (fun b e => by omega)) hK2 (Nat.le_trans hWB.size hK1.size) (fun b e => by omega))
          have HP1 : Hid (pilF idF E1 = pilF idF (stY H R L (k + 1)).1) := by show _ = _; rw [unhide HSU]
          rw [unhide HP1] at HN5
          have hsm : IntKind.i64.wrap (sm + E2) = sm + E2 := by rw [IntKind.wrap_i64]; omega
          have HSM : Hid ((stY H R L (k + 1)).2 = sm + E2) := by show _ = _; rw [unhide HSU]
          rw [ew7] at HW2 HA2 HC2 HN5 HDC2 HNL2
          clear hdset e5 hC1 hK1 hK2 hWB HDC1 HNL1 HN4 HN3 hNB hu1 ew7 HC HA HW HDC HNL HP1
          go_wp2
          go_roundg (L.length - (k + 1))
          case measure => omega
          case rel => exact ⟨k + 1, g3, Z3, by omega, rfl, by go_num, by rw [unhide HSM], HW2, HA2, HC2, HN5, HDC2, HNL2⟩
        · have hkk : k = L.length := by omega
          subst hkk
          have HYL := hide (st_ok (unhide HY) L L.length)
          have HSL := hide (st_len H R L L.length)
          have HQ := hide (yardOf_any H g2 Z2 (stY H R L L.length).1 wr (unhide HN) (by rw [unhide HSL]; exact hn2) (fun s hs => by have h1 := (unhide HYL).low s hs; have h2 := (unhide HYL).h2; omega))
          rw [unhide HSL] at HQ
          unfold gndV at HQ
          rw [cdR_all] at HDC
          have HCE := hide (cds_len H R L L.length)
          have eD := unhide HD
          simp only [Prod.mk.injEq] at eD
          obtain ⟨e1, e2, e3⟩ := eD
          rw [← e1] at HQ HSL
          rw [← e2] at HDC HCE
          rw [← e3]
          have hgcl := (unhide HDC).lt
          have hal := (unhide HA).lt
          have c0 := (unhide HC).cell (i := 0) rfl
          have c1 := (unhide HC).cell (i := 1) rfl
          clear e1 e2 e3 HN HNL HD
          go_wp2_with fail
          refine (unhide HQ).mono ?_
          rintro e w2 ⟨gz, Gz, Cz, capz, rfl, hz1, hz2, hOR, hb⟩
          obtain ⟨Bz, eBz⟩ : ∃ z, z = wr.heap.size := ⟨_, rfl⟩
          obtain ⟨Uz, eUz⟩ : ∃ z, z = w2.heap.size := ⟨_, rfl⟩
          have hsw := (unhide HW).size
          have HOR := hide (ownU_of hOR hz1 hz2 eUz)
          rw [← eBz] at HOR hsw hgcl hal
          replace HW := hide (Below.step (unhide HW) hb)
          replace HA := hide ((unhide HA).step hb)
          replace HDC := hide ((unhide HDC).step hb)
          have hUz3 : Uz ≤ w2.heap.size := Nat.le_of_eq eUz
          have HCN : Hid (OwnIntsU gc Bz w2 (.slice (some ⟨gc, 0, none⟩) L.length L.length) D2) := ⟨_, L.length, by rw [unhide HCE], by rw [unhide HCE]; exact Nat.le_refl _, by unfold maxLen; omega, fun _ => ⟨gc, rfl, Nat.le_refl _, hgcl, unhide HDC⟩⟩
          have hBU : Bz ≤ Uz := by rw [eBz, eUz]; exact hb.size
          clear hOR hb c0 c1 HQ eBz eUz HDC
          unfold yardV
          rw [unhide HSL]
          rw [unhide HSL] at HOR
          have HKS : Hid (Kept (fun b => b = g0 + 1) w2 ((w2.setCell ⟨g0 + 1, 0, none⟩ (.int .i64 H)).setCell ⟨g0 + 1, 1, none⟩ (.slice (some ⟨gz, 0, none⟩) R.length capz))) := ((Kept.refl (fun b => b = g0 + 1) _).setCell (p := ⟨g0 + 1, 0, none⟩) rfl _).setCell (p := ⟨g0 + 1, 1, none⟩) rfl _
          have rf0 := (unhide HA).frozen 0
          have rf1 := (unhide HA).frozen 1
          have r0 := (unhide HA).cell (i := 0) rfl
          have r1 := (unhide HA).cell (i := 1) rfl
          have f0 := (((unhide HA).set 0 (.int .i64 H) (by simp)).set 1 (.slice (some ⟨gz, 0, none⟩) R.length capz) (by simp)).cell (i := 0) rfl
          have f1 := (((unhide HA).set 0 (.int .i64 H) (by simp)).set 1 (.slice (some ⟨gz, 0, none⟩) R.length capz) (by simp)).cell (i := 1) rfl
          have hWB : Below w.heap.size w w2 := unhide HW
          go_wp2
          refine bodyPost_ret (v := .tuple #[.agg #[.int .i64 H, .slice (some ⟨gz, 0, none⟩) R.length capz], .slice (some ⟨gc, 0, none⟩) L.length L.length, .int .i64 D3]) (by simp [results, Try.results16, go_sem, f0, f1]) rfl ?_
          exact ⟨_, _, Bz, Uz, gc, Bz, gz, capz, _, _, _, rfl, by dsimp only; rw [unhide HSL], rfl, (unhide HOR).kept (unhide HKS) (fun b h1 h2 e => by omega), (unhide HCN).kept (unhide HKS) (fun b h1 h2 e => by omega), hsw, by omega, Nat.le_trans hUz3 (unhide HKS).size, Nat.le_trans (Nat.le_trans hBU hUz3) (unhide HKS).size, Or.inr (Nat.le_refl _), below_kept hWB (unhide HKS) hWB.size (fun b e => by omega)⟩

end Go.Proofs.Ytjllilmiloippaa

namespace Go.Proofs.Ytjllilmiloippaa
open Go.RowKit

/-- A row's value: its block (or none), its length, its capacity. -/
def sltV (a : Option Nat) (m c : Nat) : Value := .slice (a.map fun b => ⟨b, 0, none⟩) m c
def topsR (A : Nat → Option Nat) (C : Nat → Nat) (R : List (List Int)) : List Value := (List.range R.length).map fun s => sltV (A s) (R.getD s []).length (C s)
theorem topsR_len (A : Nat → Option Nat) (C : Nat → Nat) (R : List (List Int)) : (topsR A C R).length = R.length := by simp [topsR]
theorem topsR_get (A : Nat → Option Nat) (C : Nat → Nat) (R : List (List Int)) {s : Nat} (h : s < R.length) : (topsR A C R)[s]? = some (sltV (A s) (R.getD s []).length (C s)) := by
  simp [topsR, h]
def updA (A : Nat → Option Nat) (s g : Nat) : Nat → Option Nat := fun t => if t = s then some g else A t
def updC (C : Nat → Nat) (s c : Nat) : Nat → Nat := fun t => if t = s then c else C t
theorem topsR_set (A : Nat → Option Nat) (C : Nat → Nat) (R : List (List Int)) {s g c : Nat} {row : List Int} (h : s < R.length) : (topsR A C R).set s (sltV (some g) row.length c) = topsR (updA A s g) (updC C s c) (R.set s row) := by
  apply List.ext_getElem?
  intro i
  by_cases hi : i < R.length
  · rw [topsR_get _ _ _ (by rw [List.length_set]; exact hi)]
    by_cases e : i = s
    · subst e
      rw [List.getElem?_set_self (by rw [topsR_len]; exact h), rowset_self h]
      simp [updA, updC]
    · rw [List.getElem?_set_ne (fun x => e x.symm), topsR_get _ _ _ hi, rowset_ne e]
      simp [updA, updC, e]
  · rw [List.getElem?_eq_none (by simp [topsR_len]; omega), List.getElem?_eq_none (by simp [topsR_len]; omega)]

structure YR (w : World) (B g : Nat) (A : Nat → Option Nat) (C : Nat → Nat) (R : List (List Int)) : Prop where
  top : OwnV w g (topsR A C R)
  row : ∀ s, s < R.length → RowB 3 1 eI B w ((A s).map fun b => ⟨b, 0, none⟩) (R.getD s []).length (C s) (R.getD s [])
  apart : ∀ s t b, s < R.length → t < R.length → A s = some b → A t = some b → s = t
  gB : g < B

theorem YR.rowBlk {w : World} {B g : Nat} {A : Nat → Option Nat} {C : Nat → Nat} {R : List (List Int)} (h : YR w B g A C R) {s b : Nat} (hs : s < R.length) (e : A s = some b) : B ≤ b ∧ b < w.heap.size := by
  have := h.row s hs
  rw [e] at this
  rcases this.parts (by omega) with ⟨e2, _⟩ | ⟨b', e2, h1, h2, _⟩
  · cases e2
  · simp only [Option.map_some, Option.some.injEq, Addr.mk.injEq, and_true] at e2
    subst e2
    exact ⟨h1, h2⟩
theorem YR.some {w : World} {B g : Nat} {A : Nat → Option Nat} {C : Nat → Nat} {R : List (List Int)} (h : YR w B g A C R) {s : Nat} (hs : s < R.length) (hp : 0 < (R.getD s []).length) : ∃ b, A s = some b ∧ OwnV w b (ints (R.getD s [])) ∧ (R.getD s []).length ≤ C s ∧ C s ≤ maxLen := by
  cases e : A s with
  | none =>
    have := h.row s hs
    rw [e] at this
    rcases this.parts (by omega) with ⟨_, e2, _⟩ | ⟨b', e2, _⟩
    · omega
    · cases e2
  | some b =>
    have := h.row s hs
    rw [e] at this
    rcases this.parts (by omega) with ⟨e2, _⟩ | ⟨b', e2, h1, h2, h3, h4, h5⟩
    · cases e2
    · simp only [Option.map_some, Option.some.injEq, Addr.mk.injEq, and_true] at e2
      subst e2
      rw [recI] at h5
      exact ⟨b, rfl, h5, h3, h4⟩
theorem YR.kept {P : Nat → Prop} {w w' : World} {B g : Nat} {A : Nat → Option Nat} {C : Nat → Nat} {R : List (List Int)} (h : YR w B g A C R) (hk : Kept P w w') (hg : ¬ P g) (hB : ∀ b, B ≤ b → b < w.heap.size → ¬ P b) : YR w' B g A C R :=
  ⟨h.top.kept hk hg, fun s hs => (h.row s hs).kept hk (fun b _ h1 h2 => hB b h1 h2), h.apart, h.gB⟩
theorem YR.below {w w' : World} {B g : Nat} {A : Nat → Option Nat} {C : Nat → Nat} {R : List (List Int)} (h : YR w B g A C R) (hb : Below w.heap.size w w') : YR w' B g A C R :=
  h.kept (P := fun _ => False) (kept_of_below hb) (fun h => h) (fun _ _ _ h => h)
theorem YR.cell {w : World} {B g : Nat} {A : Nat → Option Nat} {C : Nat → Nat} {R : List (List Int)} (h : YR w B g A C R) {s : Nat} (hs : s < R.length) : w.cell? ⟨g, s, none⟩ = Option.some (sltV (A s) (R.getD s []).length (C s)) := h.top.cell (topsR_get A C R hs)
/-- A row's new slice laid in its place, the row's block the same or a new one. -/
theorem YR.put' {w w' : World} {B g : Nat} {A : Nat → Option Nat} {C : Nat → Nat} {R : List (List Int)} (h : YR w B g A C R) {s : Nat} (hs : s < R.length) {g' c' : Nat} {row : List Int} (hk : Kept (fun b => A s = Option.some b) w w')
    (hr : RowB 3 1 eI B w' (Option.some ⟨g', 0, none⟩) row.length c' row) (hne : ∀ t, t < R.length → t ≠ s → A t ≠ Option.some g') : YR (w'.setCell ⟨g, s, none⟩ (sltV (Option.some g') row.length c')) B g (updA A s g') (updC C s c') (R.set s row) := by
  have hgl : g < w.heap.size := h.top.lt
  have hgT : ¬ A s = Option.some g := fun e => by have := (h.rowBlk hs e).1; have := h.gB; omega
  have hkS : Kept (fun b => b = g) w' (w'.setCell ⟨g, s, none⟩ (sltV (Option.some g') row.length c')) := (Kept.refl (fun b => b = g) w').setCell (p := ⟨g, s, none⟩) rfl _
  have hlen : ∀ t, t < (R.set s row).length → t < R.length := fun t ht => by rwa [List.length_set] at ht
  refine ⟨?_, fun t ht => ?_, fun t u b ht hu e1 e2 => ?_, h.gB⟩
  · have := (h.top.kept hk hgT).set s (sltV (Option.some g') row.length c') (by rw [topsR_len]; exact hs)
    rwa [topsR_set A C R hs] at this
  · have ht' := hlen t ht
    by_cases e : t = s
    · subst e
      rw [rowset_self hs]
      have e1 : updA A t g' t = Option.some g' := by simp [updA]
      have e2 : updC C t c' t = c' := by simp [updC]
      rw [e1, e2]
      exact hr.kept hkS (fun b _ h1 _ e => by have := h.gB; omega)
    · rw [rowset_ne e]
      have e1 : updA A s g' t = A t := by simp [updA, e]
      have e2 : updC C s c' t = C t := by simp [updC, e]
      rw [e1, e2]
      exact ((h.row t ht').kept hk (fun b e3 _ _ e4 => by
        cases e5 : A t with
        | none => rw [e5] at e3; cases e3
        | some b' =>
          rw [e5] at e3
          simp only [Option.map_some, Option.some.injEq, Addr.mk.injEq, and_true] at e3
          subst e3
          exact e (h.apart t s b' ht' hs e5 e4))).kept hkS (fun b _ h1 _ e => by have := h.gB; omega)
  · have ht' := hlen t ht
    have hu' := hlen u hu
    have key := hne
    by_cases e3 : t = s
    · by_cases e4 : u = s
      · rw [e3, e4]
      · exfalso
        simp only [updA, e3, if_true, if_neg e4, Option.some.injEq] at e1 e2
        exact key u hu' e4 (by rw [e2, e1])
    · by_cases e4 : u = s
      · exfalso
        simp only [updA, if_neg e3, e4, if_true, Option.some.injEq] at e1 e2
        exact key t ht' e3 (by rw [e1, e2])
      · simp only [updA, if_neg e3, if_neg e4] at e1 e2
        exact h.apart t u b ht' hu' e1 e2
theorem YR.put {w w' : World} {B g : Nat} {A : Nat → Option Nat} {C : Nat → Nat} {R : List (List Int)} (h : YR w B g A C R) {s : Nat} (hs : s < R.length) {g' c' : Nat} {row : List Int} (hk : Kept (fun b => A s = Option.some b) w w')
    (hr : RowB 3 1 eI B w' (Option.some ⟨g', 0, none⟩) row.length c' row) (hg : A s = Option.some g' ∨ w.heap.size ≤ g') : YR (w'.setCell ⟨g, s, none⟩ (sltV (Option.some g') row.length c')) B g (updA A s g') (updC C s c') (R.set s row) :=
  h.put' hs hk hr fun t ht hts et => by
    rcases hg with e | e
    · exact hts (h.apart t s g' ht hs et e)
    · have := (h.rowBlk ht et).2; omega
theorem YR.keptA {P : Nat → Prop} {w w' : World} {B g : Nat} {A : Nat → Option Nat} {C : Nat → Nat} {R : List (List Int)} (h : YR w B g A C R) (hk : Kept P w w') (hg : ¬ P g) (hA : ∀ s b, s < R.length → A s = Option.some b → ¬ P b) : YR w' B g A C R :=
  ⟨h.top.kept hk hg, fun s hs => (h.row s hs).kept hk (fun b e _ _ => hA s b hs (by cases e2 : A s with | none => rw [e2] at e; cases e | some b' => rw [e2] at e; simp only [Option.map_some, Option.some.injEq, Addr.mk.injEq, and_true] at e; rw [e])), h.apart, h.gB⟩
/-- A number of a row written anew. -/
theorem YR.setCell {w : World} {B g : Nat} {A : Nat → Option Nat} {C : Nat → Nat} {R : List (List Int)} (h : YR w B g A C R) {s i b : Nat} (hs : s < R.length) (hi : i < (R.getD s []).length) (e : A s = Option.some b) (x : Int) : YR (w.setCell ⟨b, i, none⟩ (.int .i64 x)) B g A C (R.set s ((R.getD s []).set i x)) := by
  have hb := h.rowBlk hs e
  have hkS : Kept (fun k => k = b) w (w.setCell ⟨b, i, none⟩ (.int .i64 x)) := (Kept.refl (fun k => k = b) w).setCell (p := ⟨b, i, none⟩) rfl _
  have hl : ∀ t, ((R.set s ((R.getD s []).set i x)).getD t []).length = (R.getD t []).length := fun t => by
    by_cases e : t = s
    · subst e; rw [rowset_self hs, List.length_set]
    · rw [rowset_ne e]
  refine ⟨?_, fun t ht => ?_, fun t u b' ht hu => h.apart t u b' (by rwa [List.length_set] at ht) (by rwa [List.length_set] at hu), h.gB⟩
  · have : topsR A C (R.set s ((R.getD s []).set i x)) = topsR A C R := by
      unfold topsR
      rw [List.length_set]
      exact List.map_congr_left fun t _ => by rw [hl t]
    rw [this]
    exact h.top.kept hkS (fun e2 => by have := h.gB; omega)
  · have ht' : t < R.length := by rwa [List.length_set] at ht
    rw [hl t]
    by_cases e2 : t = s
    · subst e2
      rw [rowset_self hs]
      have := h.row t hs
      rw [e] at this ⊢
      have := RowB.set this (i := i) (j := 0) (by omega) hi x (.int .i64 x) rfl (fun j' h1 h2 => by omega)
      rw [Nat.mul_one, Nat.add_zero] at this
      exact this
    · rw [rowset_ne e2]
      exact (h.row t ht').kept hkS (fun b' e3 _ _ e4 => by
        cases e5 : A t with
        | none => rw [e5] at e3; cases e3
        | some b2 =>
          rw [e5] at e3
          simp only [Option.map_some, Option.some.injEq, Addr.mk.injEq, and_true] at e3
          subst e3 e4
          exact e2 (h.apart t s _ ht' hs e5 e))
theorem YR.rows {w : World} {B g : Nat} {A : Nat → Option Nat} {C : Nat → Nat} {R : List (List Int)} (h : YR w B g A C R) {c : Nat} (hc : R.length ≤ c) (hm : c ≤ maxLen) : RowsIn w (.slice (Option.some ⟨g, 0, none⟩) R.length c) R :=
  ⟨_, c, rfl, hc, hm, fun s hs => ⟨g, 0, _, rfl, by rw [Nat.zero_add]; exact h.cell hs, recs_ints ((h.row s hs).recs (by omega))⟩⟩
theorem yr_new (w : World) (B g n : Nat) (hO : OwnV w g (List.replicate n (.slice none 0 0))) (hB : g < B) : YR w B g (fun _ => none) (fun _ => 0) (List.replicate n []) := by
  have hrow : ∀ s, s < n → (List.replicate n ([] : List Int)).getD s [] = [] := fun s hs => by simp [List.getD, hs]
  refine ⟨?_, fun s hs => ?_, fun s t b _ _ e => (by cases e), hB⟩
  · have : topsR (fun _ => none) (fun _ => 0) (List.replicate n ([] : List Int)) = List.replicate n (.slice none 0 0) := by
      apply List.ext_getElem?
      intro i
      by_cases hi : i < n
      · rw [topsR_get _ _ _ (by simpa using hi), hrow i hi]
        simp [sltV, hi]
      · rw [List.getElem?_eq_none (by simp [topsR_len]; omega), List.getElem?_eq_none (by simp; omega)]
    rw [this]
    exact hO
  · rw [hrow s (by simpa using hs)]
    exact rowB_nil 3 1 eI B w
theorem yok_new {H : Int} {n : Nat} (h1 : 1 ≤ H) (h2 : H ≤ 6) (n1 : 1 ≤ n) (n2 : n ≤ 12) : YOk H (List.replicate n []) := by
  have hrow : ∀ s, s < n → (List.replicate n ([] : List Int)).getD s [] = [] := fun s hs => by simp [List.getD, hs]
  have hf : (List.replicate n ([] : List Int)).flatten = [] := by simp
  exact ⟨h1, h2, by simpa using n1, by simpa using n2, fun s hs => by rw [hrow s (by simpa using hs)]; simp; omega, fun s hs t ht => by rw [hrow s (by simpa using hs)] at ht; simp at ht, by rw [hf]; exact List.nodup_nil⟩
theorem count_set {l : List Int} {i : Nat} (hi : i < l.length) (v x : Int) : (l.set i v).count x + (if l.getD i 0 = x then 1 else 0) = l.count x + (if v = x then 1 else 0) := by
  induction l generalizing i with
  | nil => simp at hi
  | cons a l ih =>
    cases i with
    | zero =>
      rw [List.set_cons_zero, List.count_cons, List.count_cons, List.getD_cons_zero]
      simp only [beq_iff_eq]
      omega
    | succ i =>
      have := ih (i := i) (by simpa using hi)
      rw [List.set_cons_succ, List.count_cons, List.count_cons, List.getD_cons_succ]
      omega
theorem getD_setI {l : List Int} {j : Nat} (x : Int) (v : Nat) (hj : j < l.length) : (l.set j x).getD v 0 = if v = j then x else l.getD v 0 := by
  by_cases e : v = j
  · subst e; rw [if_pos rfl]; simp [List.getD, hj]
  · rw [if_neg e]; simp [List.getD, List.getElem?_set_ne (show j ≠ v by omega)]
/-- Two of a row changed with each other. -/
theorem swap_ok {H : Int} {R : List (List Int)} (h : YOk H R) {s i k : Nat} (hs : s < R.length) (hi : i < (R.getD s []).length) (hk : k < (R.getD s []).length) :
    YOk H (R.set s (((R.getD s []).set i ((R.getD s []).getD k 0)).set k ((R.getD s []).getD i 0))) ∧ ∀ x, (R.set s (((R.getD s []).set i ((R.getD s []).getD k 0)).set k ((R.getD s []).getD i 0))).flatten.count x = R.flatten.count x := by
  have cnt : ∀ x, (((R.getD s []).set i ((R.getD s []).getD k 0)).set k ((R.getD s []).getD i 0)).count x = (R.getD s []).count x := fun x => by
    have h1 := count_set (l := (R.getD s []).set i ((R.getD s []).getD k 0)) (i := k) (by rw [List.length_set]; exact hk) ((R.getD s []).getD i 0) x
    have h2 := count_set hi ((R.getD s []).getD k 0) x
    rw [getD_setI _ k hi] at h1
    by_cases e : k = i
    · subst e
      rw [if_pos rfl] at h1
      omega
    · rw [if_neg e] at h1
      omega
  have hc : ∀ x, (R.set s (((R.getD s []).set i ((R.getD s []).getD k 0)).set k ((R.getD s []).getD i 0))).flatten.count x = R.flatten.count x := fun x => by
    have := set_flat_count R s (((R.getD s []).set i ((R.getD s []).getD k 0)).set k ((R.getD s []).getD i 0)) x hs
    rw [cnt x] at this
    omega
  refine ⟨h.of_count (by simp) (fun t ht => ?_) (fun x => Nat.le_of_eq (hc x)), hc⟩
  by_cases e : t = s
  · subst e
    rw [rowset_self hs, List.length_set, List.length_set]
    exact h.low t hs
  · rw [rowset_ne e]; exact h.low t ht
theorem in_count {R : List (List Int)} {s : Nat} (x : Int) (hs : s < R.length) (y : Int) : (R.set s (R.getD s [] ++ [x])).flatten.count y = R.flatten.count y + if x = y then 1 else 0 := by
  have := set_flat_count R s (R.getD s [] ++ [x]) y hs
  rw [List.count_append, List.count_singleton] at this
  simp only [beq_iff_eq] at this
  omega

end Go.Proofs.Ytjllilmiloippaa

namespace Go.Proofs.Ytjllilmiloippaa
open Go.RowKit

theorem made_rows (n : Nat) : (madeCells #[Value.slice none 0 0] n).toList = List.replicate n (.slice none 0 0) := by
  apply List.ext_getElem
  · simp [madeCells]
  · intro i h1 h2
    simp [madeCells, Nat.mod_one]
theorem keptNew {T P : Nat → Prop} {w W W' : World} (h : Kept T w W) (hk : Kept P W W') (hP : ∀ b, P b → w.heap.size ≤ b) : Kept T w W' :=
  ⟨hk.os.trans h.os, hk.tape.trans h.tape, hk.output.trans h.output, Nat.le_trans h.size hk.size, fun b hb hT => (hk.block b (Nat.lt_of_lt_of_le hb h.size) (fun e => by have := hP b e; omega)).trans (h.block b hb hT)⟩

/-- No box is greater. -/
def TopY (R : List (List Int)) (b : Int) : Prop := ∀ x ∈ R.flatten, x ≤ b

set_option maxRecDepth 100000 in
set_option maxHeartbeats 16000000 in
theorem l18Draw_any (cb n : Nat) (v : Value) (k m : Nat) (w : World) (h : Cur w cb v n) (hn : n ≤ 1048576) (hk0 : 1 ≤ k) (hk1 : k ≤ 12) (hm : m ≤ 1000) :
    Calls Try.prog 42 #[.pointer (some ⟨cb, 0, none⟩), .int .i64 k, .int .i64 m] w fun e w' => ∃ H g B A C R, e = .returned (yardV H (.slice (some ⟨g, 0, none⟩) k k)) ∧ Hid (YR w' B g A C R) ∧ Hid (YOk H R) ∧ R.length = k ∧ Hid (TopY R (2 * (m : Int))) ∧ w.heap.size ≤ g ∧ B ≤ w'.heap.size ∧ Cur w' cb v n ∧ Kept (fun b => b = cb) w w' := by
  have HC := hide h
  have hcl := h.lt
  have hA := Below.alloc1 w (.cells #[.int .i64 0, .slice none 0 0] 26)
  have HR := hide (ownV_alloc w #[.int .i64 0, .slice none 0 0] 26)
  have HW := hide (kept_of_below (T := fun b => b = cb) hA)
  replace HC := hide ((unhide HC).below hA)
  have hmk := run_make_row' (P := Try.prog) 24 30 (.slice none 0 0) 24 Try.underlying24 Try.info30 rfl .i64 .i64 k (by omega) (by omega)
  clear h
  unfold yardV
  go_enter Try.func42, Try.ntmps42
  go_upto_region 1 with (fail)
  obtain ⟨gr, egr⟩ : ∃ z, z = w.heap.size := ⟨_, rfl⟩
  obtain ⟨W0, eW0⟩ : ∃ z, z = w.alloc (.cells #[.int .i64 0, .slice none 0 0] 26) := ⟨_, rfl⟩
  rw [← eW0] at HR HW HC hA ⊢
  rw [← egr] at HR ⊢
  have hgr : w.heap.size ≤ gr := by omega
  have hl0 : w.heap.size ≤ W0.heap.size := hA.size
  clear hA egr eW0
  go_cut [7] (fun s7 wx => ∃ gy g H, s7 = .pointer (some ⟨gy, 0, none⟩) ∧ gy ≠ g ∧ gr < gy ∧ gr < g ∧ 1 ≤ H ∧ H ≤ 4 ∧ w.heap.size ≤ g ∧ Hid (OwnV wx gy [.int .i64 H, .slice (some ⟨g, 0, none⟩) k k]) ∧ Hid (OwnV wx g (List.replicate k (.slice none 0 0))) ∧ Hid (OwnV wx gr [.int .i64 0, .slice none 0 0]) ∧ Hid (Cur wx cb v n) ∧ Hid (Kept (fun b => b = cb) w wx))
  case first =>
    obtain ⟨wd, ewd⟩ : ∃ z, z = W0.drew := ⟨_, rfl⟩
    have hb : Below W0.heap.size W0 wd := by rw [ewd]; exact (Below.refl _ _).drew
    have hlwd := Nat.le_trans hl0 hb.size
    replace HW := hide ((unhide HW).trans (kept_of_below hb))
    replace HC := hide ((unhide HC).below hb)
    replace HR := hide ((unhide HR).step hb)
    clear hb
    refine wp_region_held_drew (S := fun w' => w'.cell? ⟨gr, 0, none⟩ = some (.int .i64 0)) (by kernel_rfl) (by rw [← ewd]; exact (unhide HR).cell (i := 0) rfl) (fun hHeld => ?_)
    rw [← ewd] at hHeld ⊢
    clear ewd
    refine wpAnyH_take (i := 0) (v := ?_) rfl (by kernel_rfl) (by kernel_rfl) (by kernel_rfl) (fun _ _ _ h => h) (Or.inl ⟨by rfl, ?_⟩) (by assumption) ?_
    rotate_left
    · intro wy hSw
      have hS0 := hSw
      go_simp
      try with_reducible rfl
    try simp only [Act.put, List.getElem_toArray, List.getElem_cons_zero, List.setIfInBounds_toArray, List.set_cons_zero, List.set_cons_succ]
    refine wpAnyH_take (i := 3) (v := ?_) rfl (by kernel_rfl) (by kernel_rfl) (by kernel_rfl) (fun _ _ _ h => h) (Or.inl ⟨by rfl, ?_⟩) (by assumption) ?_
    rotate_left
    · intro wy hSw
      have hS0 := hSw
      go_simp
      try with_reducible rfl
    try simp only [Act.put, List.getElem_toArray, List.getElem_cons_succ, List.getElem_cons_zero, List.setIfInBounds_toArray, List.set_cons_zero, List.set_cons_succ]
    refine wpAnyH_ready (rs := [1, 4, 6]) (by kernel_rfl) (by simp) ?_
    refine AllReadyH.cons rfl (fun K hK => ?_) (AllReadyH.cons rfl (fun K hK => ?_) (AllReadyH.cons rfl (fun K hK => ?_) (AllReadyH.nil)))
    · go_simp
      have HCQ := hide (l1BelowV_any cb n v 4 wd (unhide HC) hn (by omega) (by omega))
      refine (unhide HCQ).mono ?_
      rintro e v1 ⟨x, rfl, hx0, hx1, hC, hk⟩
      have hlv1 := Nat.le_trans hlwd hk.size
      replace HW := hide ((unhide HW).trans hk)
      replace HR := hide ((unhide HR).kept hk (fun e => by omega))
      replace HC := hide hC
      clear hC hk HCQ
      have hxw : IntKind.i64.wrap (1 + x) = 1 + x := by rw [IntKind.wrap_i64]; omega
      refine hK.out _ _ ((unhide HR).cell (i := 0) rfl) (fun hHeld => ?_)
      clear hK K
      try simp only [Act.put, List.setIfInBounds_toArray, List.set_cons_zero, List.set_cons_succ]
      refine wpAnyH_take (i := 2) (v := ?_) rfl (by kernel_rfl) (by kernel_rfl) (by kernel_rfl) (fun _ _ _ h => h) (Or.inl ⟨by rfl, ?_⟩) (by assumption) ?_
      rotate_left
      · intro wy hSw
        have hS0 := hSw
        go_simp
        try with_reducible rfl
      try simp only [Act.put, List.getElem_toArray, List.getElem_cons_succ, List.getElem_cons_zero, List.setIfInBounds_toArray, List.set_cons_zero, List.set_cons_succ]
      refine wpAnyH_ready (rs := [4, 6]) (by kernel_rfl) (by simp) ?_
      refine AllReadyH.cons rfl (fun K hK => ?_) (AllReadyH.cons rfl (fun K hK => ?_) (AllReadyH.nil))
      · go_simp
        obtain ⟨g, eg⟩ : ∃ z, z = v1.heap.size := ⟨_, rfl⟩
        have hgl : gr < g := by rw [eg]; exact (unhide HR).lt
        obtain ⟨v41, ew⟩ : ∃ z, z = v1.alloc (.cells (madeCells #[.slice none 0 0] k) 30) := ⟨_, rfl⟩
        have hb : Below v1.heap.size v1 v41 := by rw [ew]; exact Below.alloc1 _ _
        have hlv41 := Nat.le_trans hlv1 hb.size
        have HT : Hid (OwnV v41 g (List.replicate k (.slice none 0 0))) := by rw [ew, eg, ← made_rows]; exact ownV_alloc _ _ _
        rw [← ew, ← eg]
        replace HW := hide ((unhide HW).trans (kept_of_below hb))
        replace HC := hide ((unhide HC).below hb)
        replace HR := hide ((unhide HR).step hb)
        clear hb ew eg
        refine hK.out _ _ ((unhide HR).cell (i := 0) rfl) (fun hHeld => ?_)
        clear hK K
        try simp only [Act.put, List.setIfInBounds_toArray, List.set_cons_zero, List.set_cons_succ]
        refine wpAnyH_take (i := 5) (v := ?_) rfl (by kernel_rfl) (by kernel_rfl) (by kernel_rfl) (fun _ _ _ h => h) (Or.inl ⟨by rfl, ?_⟩) (by assumption) ?_
        rotate_left
        · intro wy hSw
          have hS0 := hSw
          go_simp
          try with_reducible rfl
        try simp only [Act.put, List.getElem_toArray, List.getElem_cons_succ, List.getElem_cons_zero, List.setIfInBounds_toArray, List.set_cons_zero, List.set_cons_succ]
        refine wpAnyH_ready (rs := [6]) (by kernel_rfl) (by simp) ?_
        refine AllReadyH.cons rfl (fun K hK => ?_) (AllReadyH.nil)
        go_simp
        obtain ⟨gy, eg⟩ : ∃ z, z = v41.heap.size := ⟨_, rfl⟩
        have hyl : gr < gy := by rw [eg]; exact (unhide HR).lt
        have hgy : g < gy := by rw [eg]; exact (unhide HT).lt
        obtain ⟨v614, ew⟩ : ∃ z, z = v41.alloc (.cells #[.int .i64 0, .slice none 0 0] 26) := ⟨_, rfl⟩
        have hb : Below v41.heap.size v41 v614 := by rw [ew]; exact Below.alloc1 _ _
        have hlv614 := Nat.le_trans hlv41 hb.size
        have HBX : Hid (OwnV v614 gy [.int .i64 0, .slice none 0 0]) := by rw [ew, eg]; exact ownV_alloc _ _ _
        rw [← ew, ← eg]
        replace HW := hide ((unhide HW).trans (kept_of_below hb))
        replace HC := hide ((unhide HC).below hb)
        replace HR := hide ((unhide HR).step hb)
        replace HT := hide ((unhide HT).step hb)
        clear hb ew eg
        refine hK.out _ _ ((unhide HR).cell (i := 0) rfl) (fun hHeld => ?_)
        clear hK K
        try simp only [Act.put, List.setIfInBounds_toArray, List.set_cons_zero, List.set_cons_succ]
        refine wpAnyH_ready (rs := [7]) (by kernel_rfl) (by simp) ?_
        refine AllReadyH.cons rfl (fun K hK => ?_) AllReadyH.nil
        have rf0 := (unhide HBX).frozen 0
        have rf1 := (unhide HBX).frozen 1
        have r0 := (unhide HBX).cell (i := 0) rfl
        have r1 := (unhide HBX).cell (i := 1) rfl
        have HBN := hide (((unhide HBX).set 0 (.int .i64 (1 + x)) (by simp)).set 1 (.slice (some ⟨g, 0, none⟩) k k) (by simp))
        have hKS := ((Kept.refl (fun b => b = gy) v614).setCell (p := ⟨gy, 0, none⟩) rfl (.int .i64 (1 + x))).setCell (p := ⟨gy, 1, none⟩) rfl (.slice (some ⟨g, 0, none⟩) k k)
        have HRN := hide ((unhide HR).kept hKS (fun e => by omega))
        have HTN := hide ((unhide HT).kept hKS (fun e => by omega))
        have HCN := hide ((unhide HC).kept hKS (fun b e => by omega))
        have HWN := hide (keptNew (unhide HW) hKS (fun b e => by omega))
        clear hKS
        go_simp
        clear rf0 rf1 r0 r1
        refine hK.out _ _ ((unhide HRN).cell (i := 0) rfl) (fun hHeld => ?_)
        clear hK K
        try simp only [Act.put, List.setIfInBounds_toArray, List.set_cons_zero, List.set_cons_succ]
        refine wpAnyH_done (by kernel_rfl) ?_ _
        go_wp2_with fail
        go_meet
        exact ⟨gy, g, 1 + x, rfl, by omega, by omega, by omega, by omega, by omega, by omega, HBN, HTN, HRN, HCN, HWN⟩
      · go_simp
        obtain ⟨gy, eg⟩ : ∃ z, z = v1.heap.size := ⟨_, rfl⟩
        have hyl : gr < gy := by rw [eg]; exact (unhide HR).lt
        obtain ⟨v61, ew⟩ : ∃ z, z = v1.alloc (.cells #[.int .i64 0, .slice none 0 0] 26) := ⟨_, rfl⟩
        have hb : Below v1.heap.size v1 v61 := by rw [ew]; exact Below.alloc1 _ _
        have hlv61 := Nat.le_trans hlv1 hb.size
        have HBX : Hid (OwnV v61 gy [.int .i64 0, .slice none 0 0]) := by rw [ew, eg]; exact ownV_alloc _ _ _
        rw [← ew, ← eg]
        replace HW := hide ((unhide HW).trans (kept_of_below hb))
        replace HC := hide ((unhide HC).below hb)
        replace HR := hide ((unhide HR).step hb)
        clear hb ew eg
        refine hK.out _ _ ((unhide HR).cell (i := 0) rfl) (fun hHeld => ?_)
        clear hK K
        try simp only [Act.put, List.setIfInBounds_toArray, List.set_cons_zero, List.set_cons_succ]
        refine wpAnyH_ready (rs := [4]) (by kernel_rfl) (by simp) ?_
        refine AllReadyH.cons rfl (fun K hK => ?_) (AllReadyH.nil)
        go_simp
        obtain ⟨g, eg⟩ : ∃ z, z = v61.heap.size := ⟨_, rfl⟩
        have hgl : gr < g := by rw [eg]; exact (unhide HR).lt
        have hgy : gy < g := by rw [eg]; exact (unhide HBX).lt
        obtain ⟨v416, ew⟩ : ∃ z, z = v61.alloc (.cells (madeCells #[.slice none 0 0] k) 30) := ⟨_, rfl⟩
        have hb : Below v61.heap.size v61 v416 := by rw [ew]; exact Below.alloc1 _ _
        have hlv416 := Nat.le_trans hlv61 hb.size
        have HT : Hid (OwnV v416 g (List.replicate k (.slice none 0 0))) := by rw [ew, eg, ← made_rows]; exact ownV_alloc _ _ _
        rw [← ew, ← eg]
        replace HW := hide ((unhide HW).trans (kept_of_below hb))
        replace HC := hide ((unhide HC).below hb)
        replace HR := hide ((unhide HR).step hb)
        replace HBX := hide ((unhide HBX).step hb)
        clear hb ew eg
        refine hK.out _ _ ((unhide HR).cell (i := 0) rfl) (fun hHeld => ?_)
        clear hK K
        try simp only [Act.put, List.setIfInBounds_toArray, List.set_cons_zero, List.set_cons_succ]
        refine wpAnyH_take (i := 5) (v := ?_) rfl (by kernel_rfl) (by kernel_rfl) (by kernel_rfl) (fun _ _ _ h => h) (Or.inl ⟨by rfl, ?_⟩) (by assumption) ?_
        rotate_left
        · intro wy hSw
          have hS0 := hSw
          go_simp
          try with_reducible rfl
        try simp only [Act.put, List.getElem_toArray, List.getElem_cons_succ, List.getElem_cons_zero, List.setIfInBounds_toArray, List.set_cons_zero, List.set_cons_succ]
        refine wpAnyH_ready (rs := [7]) (by kernel_rfl) (by simp) ?_
        refine AllReadyH.cons rfl (fun K hK => ?_) AllReadyH.nil
        have rf0 := (unhide HBX).frozen 0
        have rf1 := (unhide HBX).frozen 1
        have r0 := (unhide HBX).cell (i := 0) rfl
        have r1 := (unhide HBX).cell (i := 1) rfl
        have HBN := hide (((unhide HBX).set 0 (.int .i64 (1 + x)) (by simp)).set 1 (.slice (some ⟨g, 0, none⟩) k k) (by simp))
        have hKS := ((Kept.refl (fun b => b = gy) v416).setCell (p := ⟨gy, 0, none⟩) rfl (.int .i64 (1 + x))).setCell (p := ⟨gy, 1, none⟩) rfl (.slice (some ⟨g, 0, none⟩) k k)
        have HRN := hide ((unhide HR).kept hKS (fun e => by omega))
        have HTN := hide ((unhide HT).kept hKS (fun e => by omega))
        have HCN := hide ((unhide HC).kept hKS (fun b e => by omega))
        have HWN := hide (keptNew (unhide HW) hKS (fun b e => by omega))
        clear hKS
        go_simp
        clear rf0 rf1 r0 r1
        refine hK.out _ _ ((unhide HRN).cell (i := 0) rfl) (fun hHeld => ?_)
        clear hK K
        try simp only [Act.put, List.setIfInBounds_toArray, List.set_cons_zero, List.set_cons_succ]
        refine wpAnyH_done (by kernel_rfl) ?_ _
        go_wp2_with fail
        go_meet
        exact ⟨gy, g, 1 + x, rfl, by omega, by omega, by omega, by omega, by omega, by omega, HBN, HTN, HRN, HCN, HWN⟩
    · go_simp
      obtain ⟨g, eg⟩ : ∃ z, z = wd.heap.size := ⟨_, rfl⟩
      have hgl : gr < g := by rw [eg]; exact (unhide HR).lt
      obtain ⟨v4, ew⟩ : ∃ z, z = wd.alloc (.cells (madeCells #[.slice none 0 0] k) 30) := ⟨_, rfl⟩
      have hb : Below wd.heap.size wd v4 := by rw [ew]; exact Below.alloc1 _ _
      have hlv4 := Nat.le_trans hlwd hb.size
      have HT : Hid (OwnV v4 g (List.replicate k (.slice none 0 0))) := by rw [ew, eg, ← made_rows]; exact ownV_alloc _ _ _
      rw [← ew, ← eg]
      replace HW := hide ((unhide HW).trans (kept_of_below hb))
      replace HC := hide ((unhide HC).below hb)
      replace HR := hide ((unhide HR).step hb)
      clear hb ew eg
      refine hK.out _ _ ((unhide HR).cell (i := 0) rfl) (fun hHeld => ?_)
      clear hK K
      try simp only [Act.put, List.setIfInBounds_toArray, List.set_cons_zero, List.set_cons_succ]
      refine wpAnyH_ready (rs := [1, 6]) (by kernel_rfl) (by simp) ?_
      refine AllReadyH.cons rfl (fun K hK => ?_) (AllReadyH.cons rfl (fun K hK => ?_) (AllReadyH.nil))
      · go_simp
        have HCQ := hide (l1BelowV_any cb n v 4 v4 (unhide HC) hn (by omega) (by omega))
        refine (unhide HCQ).mono ?_
        rintro e v14 ⟨x, rfl, hx0, hx1, hC, hk⟩
        have hlv14 := Nat.le_trans hlv4 hk.size
        replace HW := hide ((unhide HW).trans hk)
        replace HR := hide ((unhide HR).kept hk (fun e => by omega))
        replace HT := hide ((unhide HT).kept hk (fun e => by omega))
        replace HC := hide hC
        clear hC hk HCQ
        have hxw : IntKind.i64.wrap (1 + x) = 1 + x := by rw [IntKind.wrap_i64]; omega
        refine hK.out _ _ ((unhide HR).cell (i := 0) rfl) (fun hHeld => ?_)
        clear hK K
        try simp only [Act.put, List.setIfInBounds_toArray, List.set_cons_zero, List.set_cons_succ]
        refine wpAnyH_take (i := 2) (v := ?_) rfl (by kernel_rfl) (by kernel_rfl) (by kernel_rfl) (fun _ _ _ h => h) (Or.inl ⟨by rfl, ?_⟩) (by assumption) ?_
        rotate_left
        · intro wy hSw
          have hS0 := hSw
          go_simp
          try with_reducible rfl
        try simp only [Act.put, List.getElem_toArray, List.getElem_cons_succ, List.getElem_cons_zero, List.setIfInBounds_toArray, List.set_cons_zero, List.set_cons_succ]
        refine wpAnyH_take (i := 5) (v := ?_) rfl (by kernel_rfl) (by kernel_rfl) (by kernel_rfl) (fun _ _ _ h => h) (Or.inl ⟨by rfl, ?_⟩) (by assumption) ?_
        rotate_left
        · intro wy hSw
          have hS0 := hSw
          go_simp
          try with_reducible rfl
        try simp only [Act.put, List.getElem_toArray, List.getElem_cons_succ, List.getElem_cons_zero, List.setIfInBounds_toArray, List.set_cons_zero, List.set_cons_succ]
        refine wpAnyH_ready (rs := [6]) (by kernel_rfl) (by simp) ?_
        refine AllReadyH.cons rfl (fun K hK => ?_) (AllReadyH.nil)
        go_simp
        obtain ⟨gy, eg⟩ : ∃ z, z = v14.heap.size := ⟨_, rfl⟩
        have hyl : gr < gy := by rw [eg]; exact (unhide HR).lt
        have hgy : g < gy := by rw [eg]; exact (unhide HT).lt
        obtain ⟨v641, ew⟩ : ∃ z, z = v14.alloc (.cells #[.int .i64 0, .slice none 0 0] 26) := ⟨_, rfl⟩
        have hb : Below v14.heap.size v14 v641 := by rw [ew]; exact Below.alloc1 _ _
        have hlv641 := Nat.le_trans hlv14 hb.size
        have HBX : Hid (OwnV v641 gy [.int .i64 0, .slice none 0 0]) := by rw [ew, eg]; exact ownV_alloc _ _ _
        rw [← ew, ← eg]
        replace HW := hide ((unhide HW).trans (kept_of_below hb))
        replace HC := hide ((unhide HC).below hb)
        replace HR := hide ((unhide HR).step hb)
        replace HT := hide ((unhide HT).step hb)
        clear hb ew eg
        refine hK.out _ _ ((unhide HR).cell (i := 0) rfl) (fun hHeld => ?_)
        clear hK K
        try simp only [Act.put, List.setIfInBounds_toArray, List.set_cons_zero, List.set_cons_succ]
        refine wpAnyH_ready (rs := [7]) (by kernel_rfl) (by simp) ?_
        refine AllReadyH.cons rfl (fun K hK => ?_) AllReadyH.nil
        have rf0 := (unhide HBX).frozen 0
        have rf1 := (unhide HBX).frozen 1
        have r0 := (unhide HBX).cell (i := 0) rfl
        have r1 := (unhide HBX).cell (i := 1) rfl
        have HBN := hide (((unhide HBX).set 0 (.int .i64 (1 + x)) (by simp)).set 1 (.slice (some ⟨g, 0, none⟩) k k) (by simp))
        have hKS := ((Kept.refl (fun b => b = gy) v641).setCell (p := ⟨gy, 0, none⟩) rfl (.int .i64 (1 + x))).setCell (p := ⟨gy, 1, none⟩) rfl (.slice (some ⟨g, 0, none⟩) k k)
        have HRN := hide ((unhide HR).kept hKS (fun e => by omega))
        have HTN := hide ((unhide HT).kept hKS (fun e => by omega))
        have HCN := hide ((unhide HC).kept hKS (fun b e => by omega))
        have HWN := hide (keptNew (unhide HW) hKS (fun b e => by omega))
        clear hKS
        go_simp
        clear rf0 rf1 r0 r1
        refine hK.out _ _ ((unhide HRN).cell (i := 0) rfl) (fun hHeld => ?_)
        clear hK K
        try simp only [Act.put, List.setIfInBounds_toArray, List.set_cons_zero, List.set_cons_succ]
        refine wpAnyH_done (by kernel_rfl) ?_ _
        go_wp2_with fail
        go_meet
        exact ⟨gy, g, 1 + x, rfl, by omega, by omega, by omega, by omega, by omega, by omega, HBN, HTN, HRN, HCN, HWN⟩
      · go_simp
        obtain ⟨gy, eg⟩ : ∃ z, z = v4.heap.size := ⟨_, rfl⟩
        have hyl : gr < gy := by rw [eg]; exact (unhide HR).lt
        have hgy : g < gy := by rw [eg]; exact (unhide HT).lt
        obtain ⟨v64, ew⟩ : ∃ z, z = v4.alloc (.cells #[.int .i64 0, .slice none 0 0] 26) := ⟨_, rfl⟩
        have hb : Below v4.heap.size v4 v64 := by rw [ew]; exact Below.alloc1 _ _
        have hlv64 := Nat.le_trans hlv4 hb.size
        have HBX : Hid (OwnV v64 gy [.int .i64 0, .slice none 0 0]) := by rw [ew, eg]; exact ownV_alloc _ _ _
        rw [← ew, ← eg]
        replace HW := hide ((unhide HW).trans (kept_of_below hb))
        replace HC := hide ((unhide HC).below hb)
        replace HR := hide ((unhide HR).step hb)
        replace HT := hide ((unhide HT).step hb)
        clear hb ew eg
        refine hK.out _ _ ((unhide HR).cell (i := 0) rfl) (fun hHeld => ?_)
        clear hK K
        try simp only [Act.put, List.setIfInBounds_toArray, List.set_cons_zero, List.set_cons_succ]
        refine wpAnyH_ready (rs := [1]) (by kernel_rfl) (by simp) ?_
        refine AllReadyH.cons rfl (fun K hK => ?_) (AllReadyH.nil)
        go_simp
        have HCQ := hide (l1BelowV_any cb n v 4 v64 (unhide HC) hn (by omega) (by omega))
        refine (unhide HCQ).mono ?_
        rintro e v146 ⟨x, rfl, hx0, hx1, hC, hk⟩
        have hlv146 := Nat.le_trans hlv64 hk.size
        replace HW := hide ((unhide HW).trans hk)
        replace HR := hide ((unhide HR).kept hk (fun e => by omega))
        replace HT := hide ((unhide HT).kept hk (fun e => by omega))
        replace HBX := hide ((unhide HBX).kept hk (fun e => by omega))
        replace HC := hide hC
        clear hC hk HCQ
        have hxw : IntKind.i64.wrap (1 + x) = 1 + x := by rw [IntKind.wrap_i64]; omega
        refine hK.out _ _ ((unhide HR).cell (i := 0) rfl) (fun hHeld => ?_)
        clear hK K
        try simp only [Act.put, List.setIfInBounds_toArray, List.set_cons_zero, List.set_cons_succ]
        refine wpAnyH_take (i := 2) (v := ?_) rfl (by kernel_rfl) (by kernel_rfl) (by kernel_rfl) (fun _ _ _ h => h) (Or.inl ⟨by rfl, ?_⟩) (by assumption) ?_
        rotate_left
        · intro wy hSw
          have hS0 := hSw
          go_simp
          try with_reducible rfl
        try simp only [Act.put, List.getElem_toArray, List.getElem_cons_succ, List.getElem_cons_zero, List.setIfInBounds_toArray, List.set_cons_zero, List.set_cons_succ]
        refine wpAnyH_take (i := 5) (v := ?_) rfl (by kernel_rfl) (by kernel_rfl) (by kernel_rfl) (fun _ _ _ h => h) (Or.inl ⟨by rfl, ?_⟩) (by assumption) ?_
        rotate_left
        · intro wy hSw
          have hS0 := hSw
          go_simp
          try with_reducible rfl
        try simp only [Act.put, List.getElem_toArray, List.getElem_cons_succ, List.getElem_cons_zero, List.setIfInBounds_toArray, List.set_cons_zero, List.set_cons_succ]
        refine wpAnyH_ready (rs := [7]) (by kernel_rfl) (by simp) ?_
        refine AllReadyH.cons rfl (fun K hK => ?_) AllReadyH.nil
        have rf0 := (unhide HBX).frozen 0
        have rf1 := (unhide HBX).frozen 1
        have r0 := (unhide HBX).cell (i := 0) rfl
        have r1 := (unhide HBX).cell (i := 1) rfl
        have HBN := hide (((unhide HBX).set 0 (.int .i64 (1 + x)) (by simp)).set 1 (.slice (some ⟨g, 0, none⟩) k k) (by simp))
        have hKS := ((Kept.refl (fun b => b = gy) v146).setCell (p := ⟨gy, 0, none⟩) rfl (.int .i64 (1 + x))).setCell (p := ⟨gy, 1, none⟩) rfl (.slice (some ⟨g, 0, none⟩) k k)
        have HRN := hide ((unhide HR).kept hKS (fun e => by omega))
        have HTN := hide ((unhide HT).kept hKS (fun e => by omega))
        have HCN := hide ((unhide HC).kept hKS (fun b e => by omega))
        have HWN := hide (keptNew (unhide HW) hKS (fun b e => by omega))
        clear hKS
        go_simp
        clear rf0 rf1 r0 r1
        refine hK.out _ _ ((unhide HRN).cell (i := 0) rfl) (fun hHeld => ?_)
        clear hK K
        try simp only [Act.put, List.setIfInBounds_toArray, List.set_cons_zero, List.set_cons_succ]
        refine wpAnyH_done (by kernel_rfl) ?_ _
        go_wp2_with fail
        go_meet
        exact ⟨gy, g, 1 + x, rfl, by omega, by omega, by omega, by omega, by omega, by omega, HBN, HTN, HRN, HCN, HWN⟩
    · go_simp
      obtain ⟨gy, eg⟩ : ∃ z, z = wd.heap.size := ⟨_, rfl⟩
      have hyl : gr < gy := by rw [eg]; exact (unhide HR).lt
      obtain ⟨v6, ew⟩ : ∃ z, z = wd.alloc (.cells #[.int .i64 0, .slice none 0 0] 26) := ⟨_, rfl⟩
      have hb : Below wd.heap.size wd v6 := by rw [ew]; exact Below.alloc1 _ _
      have hlv6 := Nat.le_trans hlwd hb.size
      have HBX : Hid (OwnV v6 gy [.int .i64 0, .slice none 0 0]) := by rw [ew, eg]; exact ownV_alloc _ _ _
      rw [← ew, ← eg]
      replace HW := hide ((unhide HW).trans (kept_of_below hb))
      replace HC := hide ((unhide HC).below hb)
      replace HR := hide ((unhide HR).step hb)
      clear hb ew eg
      refine hK.out _ _ ((unhide HR).cell (i := 0) rfl) (fun hHeld => ?_)
      clear hK K
      try simp only [Act.put, List.setIfInBounds_toArray, List.set_cons_zero, List.set_cons_succ]
      refine wpAnyH_ready (rs := [1, 4]) (by kernel_rfl) (by simp) ?_
      refine AllReadyH.cons rfl (fun K hK => ?_) (AllReadyH.cons rfl (fun K hK => ?_) (AllReadyH.nil))
      · go_simp
        have HCQ := hide (l1BelowV_any cb n v 4 v6 (unhide HC) hn (by omega) (by omega))
        refine (unhide HCQ).mono ?_
        rintro e v16 ⟨x, rfl, hx0, hx1, hC, hk⟩
        have hlv16 := Nat.le_trans hlv6 hk.size
        replace HW := hide ((unhide HW).trans hk)
        replace HR := hide ((unhide HR).kept hk (fun e => by omega))
        replace HBX := hide ((unhide HBX).kept hk (fun e => by omega))
        replace HC := hide hC
        clear hC hk HCQ
        have hxw : IntKind.i64.wrap (1 + x) = 1 + x := by rw [IntKind.wrap_i64]; omega
        refine hK.out _ _ ((unhide HR).cell (i := 0) rfl) (fun hHeld => ?_)
        clear hK K
        try simp only [Act.put, List.setIfInBounds_toArray, List.set_cons_zero, List.set_cons_succ]
        refine wpAnyH_take (i := 2) (v := ?_) rfl (by kernel_rfl) (by kernel_rfl) (by kernel_rfl) (fun _ _ _ h => h) (Or.inl ⟨by rfl, ?_⟩) (by assumption) ?_
        rotate_left
        · intro wy hSw
          have hS0 := hSw
          go_simp
          try with_reducible rfl
        try simp only [Act.put, List.getElem_toArray, List.getElem_cons_succ, List.getElem_cons_zero, List.setIfInBounds_toArray, List.set_cons_zero, List.set_cons_succ]
        refine wpAnyH_ready (rs := [4]) (by kernel_rfl) (by simp) ?_
        refine AllReadyH.cons rfl (fun K hK => ?_) (AllReadyH.nil)
        go_simp
        obtain ⟨g, eg⟩ : ∃ z, z = v16.heap.size := ⟨_, rfl⟩
        have hgl : gr < g := by rw [eg]; exact (unhide HR).lt
        have hgy : gy < g := by rw [eg]; exact (unhide HBX).lt
        obtain ⟨v461, ew⟩ : ∃ z, z = v16.alloc (.cells (madeCells #[.slice none 0 0] k) 30) := ⟨_, rfl⟩
        have hb : Below v16.heap.size v16 v461 := by rw [ew]; exact Below.alloc1 _ _
        have hlv461 := Nat.le_trans hlv16 hb.size
        have HT : Hid (OwnV v461 g (List.replicate k (.slice none 0 0))) := by rw [ew, eg, ← made_rows]; exact ownV_alloc _ _ _
        rw [← ew, ← eg]
        replace HW := hide ((unhide HW).trans (kept_of_below hb))
        replace HC := hide ((unhide HC).below hb)
        replace HR := hide ((unhide HR).step hb)
        replace HBX := hide ((unhide HBX).step hb)
        clear hb ew eg
        refine hK.out _ _ ((unhide HR).cell (i := 0) rfl) (fun hHeld => ?_)
        clear hK K
        try simp only [Act.put, List.setIfInBounds_toArray, List.set_cons_zero, List.set_cons_succ]
        refine wpAnyH_take (i := 5) (v := ?_) rfl (by kernel_rfl) (by kernel_rfl) (by kernel_rfl) (fun _ _ _ h => h) (Or.inl ⟨by rfl, ?_⟩) (by assumption) ?_
        rotate_left
        · intro wy hSw
          have hS0 := hSw
          go_simp
          try with_reducible rfl
        try simp only [Act.put, List.getElem_toArray, List.getElem_cons_succ, List.getElem_cons_zero, List.setIfInBounds_toArray, List.set_cons_zero, List.set_cons_succ]
        refine wpAnyH_ready (rs := [7]) (by kernel_rfl) (by simp) ?_
        refine AllReadyH.cons rfl (fun K hK => ?_) AllReadyH.nil
        have rf0 := (unhide HBX).frozen 0
        have rf1 := (unhide HBX).frozen 1
        have r0 := (unhide HBX).cell (i := 0) rfl
        have r1 := (unhide HBX).cell (i := 1) rfl
        have HBN := hide (((unhide HBX).set 0 (.int .i64 (1 + x)) (by simp)).set 1 (.slice (some ⟨g, 0, none⟩) k k) (by simp))
        have hKS := ((Kept.refl (fun b => b = gy) v461).setCell (p := ⟨gy, 0, none⟩) rfl (.int .i64 (1 + x))).setCell (p := ⟨gy, 1, none⟩) rfl (.slice (some ⟨g, 0, none⟩) k k)
        have HRN := hide ((unhide HR).kept hKS (fun e => by omega))
        have HTN := hide ((unhide HT).kept hKS (fun e => by omega))
        have HCN := hide ((unhide HC).kept hKS (fun b e => by omega))
        have HWN := hide (keptNew (unhide HW) hKS (fun b e => by omega))
        clear hKS
        go_simp
        clear rf0 rf1 r0 r1
        refine hK.out _ _ ((unhide HRN).cell (i := 0) rfl) (fun hHeld => ?_)
        clear hK K
        try simp only [Act.put, List.setIfInBounds_toArray, List.set_cons_zero, List.set_cons_succ]
        refine wpAnyH_done (by kernel_rfl) ?_ _
        go_wp2_with fail
        go_meet
        exact ⟨gy, g, 1 + x, rfl, by omega, by omega, by omega, by omega, by omega, by omega, HBN, HTN, HRN, HCN, HWN⟩
      · go_simp
        obtain ⟨g, eg⟩ : ∃ z, z = v6.heap.size := ⟨_, rfl⟩
        have hgl : gr < g := by rw [eg]; exact (unhide HR).lt
        have hgy : gy < g := by rw [eg]; exact (unhide HBX).lt
        obtain ⟨v46, ew⟩ : ∃ z, z = v6.alloc (.cells (madeCells #[.slice none 0 0] k) 30) := ⟨_, rfl⟩
        have hb : Below v6.heap.size v6 v46 := by rw [ew]; exact Below.alloc1 _ _
        have hlv46 := Nat.le_trans hlv6 hb.size
        have HT : Hid (OwnV v46 g (List.replicate k (.slice none 0 0))) := by rw [ew, eg, ← made_rows]; exact ownV_alloc _ _ _
        rw [← ew, ← eg]
        replace HW := hide ((unhide HW).trans (kept_of_below hb))
        replace HC := hide ((unhide HC).below hb)
        replace HR := hide ((unhide HR).step hb)
        replace HBX := hide ((unhide HBX).step hb)
        clear hb ew eg
        refine hK.out _ _ ((unhide HR).cell (i := 0) rfl) (fun hHeld => ?_)
        clear hK K
        try simp only [Act.put, List.setIfInBounds_toArray, List.set_cons_zero, List.set_cons_succ]
        refine wpAnyH_ready (rs := [1]) (by kernel_rfl) (by simp) ?_
        refine AllReadyH.cons rfl (fun K hK => ?_) (AllReadyH.nil)
        go_simp
        have HCQ := hide (l1BelowV_any cb n v 4 v46 (unhide HC) hn (by omega) (by omega))
        refine (unhide HCQ).mono ?_
        rintro e v164 ⟨x, rfl, hx0, hx1, hC, hk⟩
        have hlv164 := Nat.le_trans hlv46 hk.size
        replace HW := hide ((unhide HW).trans hk)
        replace HR := hide ((unhide HR).kept hk (fun e => by omega))
        replace HT := hide ((unhide HT).kept hk (fun e => by omega))
        replace HBX := hide ((unhide HBX).kept hk (fun e => by omega))
        replace HC := hide hC
        clear hC hk HCQ
        have hxw : IntKind.i64.wrap (1 + x) = 1 + x := by rw [IntKind.wrap_i64]; omega
        refine hK.out _ _ ((unhide HR).cell (i := 0) rfl) (fun hHeld => ?_)
        clear hK K
        try simp only [Act.put, List.setIfInBounds_toArray, List.set_cons_zero, List.set_cons_succ]
        refine wpAnyH_take (i := 2) (v := ?_) rfl (by kernel_rfl) (by kernel_rfl) (by kernel_rfl) (fun _ _ _ h => h) (Or.inl ⟨by rfl, ?_⟩) (by assumption) ?_
        rotate_left
        · intro wy hSw
          have hS0 := hSw
          go_simp
          try with_reducible rfl
        try simp only [Act.put, List.getElem_toArray, List.getElem_cons_succ, List.getElem_cons_zero, List.setIfInBounds_toArray, List.set_cons_zero, List.set_cons_succ]
        refine wpAnyH_take (i := 5) (v := ?_) rfl (by kernel_rfl) (by kernel_rfl) (by kernel_rfl) (fun _ _ _ h => h) (Or.inl ⟨by rfl, ?_⟩) (by assumption) ?_
        rotate_left
        · intro wy hSw
          have hS0 := hSw
          go_simp
          try with_reducible rfl
        try simp only [Act.put, List.getElem_toArray, List.getElem_cons_succ, List.getElem_cons_zero, List.setIfInBounds_toArray, List.set_cons_zero, List.set_cons_succ]
        refine wpAnyH_ready (rs := [7]) (by kernel_rfl) (by simp) ?_
        refine AllReadyH.cons rfl (fun K hK => ?_) AllReadyH.nil
        have rf0 := (unhide HBX).frozen 0
        have rf1 := (unhide HBX).frozen 1
        have r0 := (unhide HBX).cell (i := 0) rfl
        have r1 := (unhide HBX).cell (i := 1) rfl
        have HBN := hide (((unhide HBX).set 0 (.int .i64 (1 + x)) (by simp)).set 1 (.slice (some ⟨g, 0, none⟩) k k) (by simp))
        have hKS := ((Kept.refl (fun b => b = gy) v164).setCell (p := ⟨gy, 0, none⟩) rfl (.int .i64 (1 + x))).setCell (p := ⟨gy, 1, none⟩) rfl (.slice (some ⟨g, 0, none⟩) k k)
        have HRN := hide ((unhide HR).kept hKS (fun e => by omega))
        have HTN := hide ((unhide HT).kept hKS (fun e => by omega))
        have HCN := hide ((unhide HC).kept hKS (fun b e => by omega))
        have HWN := hide (keptNew (unhide HW) hKS (fun b e => by omega))
        clear hKS
        go_simp
        clear rf0 rf1 r0 r1
        refine hK.out _ _ ((unhide HRN).cell (i := 0) rfl) (fun hHeld => ?_)
        clear hK K
        try simp only [Act.put, List.setIfInBounds_toArray, List.set_cons_zero, List.set_cons_succ]
        refine wpAnyH_done (by kernel_rfl) ?_ _
        go_wp2_with fail
        go_meet
        exact ⟨gy, g, 1 + x, rfl, by omega, by omega, by omega, by omega, by omega, by omega, HBN, HTN, HRN, HCN, HWN⟩
  case rest =>
    clear HR HW HC hmk
    obtain ⟨gy, g, H, rfl, hne, hgy, hgg, hH1, hH2, hgw, HBX, HT, HR, HC, HW⟩ := hcut
    obtain ⟨B, eB⟩ : ∃ z, z = wc.heap.size := ⟨_, rfl⟩
    have hgB : g < B := by rw [eB]; exact (unhide HT).lt
    have hyB : gy < B := by rw [eB]; exact (unhide HBX).lt
    have hcg : cb < gr := by omega
    have HY := hide (yr_new wc B g k (unhide HT) hgB)
    have HO := hide (yok_new (H := H) (n := k) hH1 (by omega) hk0 hk1)
    have hBs : B ≤ wc.heap.size := by omega
    clear HT eB
    obtain ⟨R0, eR0⟩ : ∃ z, z = List.replicate k ([] : List Int) := ⟨_, rfl⟩
    have hR0 : R0.length = k := by rw [eR0]; simp
    have HX0 : Hid (∀ x ∈ R0.flatten, x ≤ 0) := by show ∀ _, _; rw [eR0]; simp
    rw [← eR0] at HY HO
    obtain ⟨A0, eA0⟩ : ∃ z : Nat → Option Nat, z = fun _ => none := ⟨_, rfl⟩
    obtain ⟨C0, eC0⟩ : ∃ z : Nat → Nat, z = fun _ => 0 := ⟨_, rfl⟩
    rw [← eA0, ← eC0] at HY
    clear eR0 eA0 eC0
    go_wp2
    go_loopg [8, 9] m (fun gg bv iv wr => ∃ (i : Nat) (box : Int) (A : Nat → Option Nat) (C : Nat → Nat) (R : List (List Int)), i ≤ m ∧ gg = m - i ∧ bv = .int .i64 box ∧ iv = .int .i64 i ∧ 0 ≤ box ∧ box ≤ 2 * i ∧ R.length = k ∧ B ≤ wr.heap.size ∧ Hid (YR wr B g A C R) ∧ Hid (YOk H R) ∧ Hid (∀ x ∈ R.flatten, x ≤ box) ∧ Hid (OwnV wr gy [.int .i64 H, .slice (some ⟨g, 0, none⟩) k k]) ∧ Hid (OwnV wr gr [.int .i64 0, .slice none 0 0]) ∧ Hid (Cur wr cb v n) ∧ Hid (Kept (fun b => b = cb) w wr))
    case atStart => exact ⟨0, 0, A0, C0, R0, Nat.zero_le _, rfl, rfl, rfl, by omega, by omega, hR0, hBs, HY, HO, HX0, HBX, HR, HC, HW⟩
    case round =>
      clear HY HO HX0 HBX HR HC HW hBs hR0
      obtain ⟨i, box, A, C, R, hi, rfl, rfl, rfl, hb0, hb1, hRk, hBs, HY, HO, HX, HBX, HR, HC, HW⟩ := hrel
      by_cases him : i < m
      case neg =>
        have hii : ¬ (i : Int) < m := by omega
        replace HX : Hid (∀ x ∈ R.flatten, x ≤ 2 * (m : Int)) := fun x hx => by have := unhide HX x hx; omega
        go_wp2
        go_loopg [11] k (fun gg sv wr => ∃ (s : Nat) (R' : List (List Int)), s ≤ k ∧ gg = k - s ∧ sv = .int .i64 s ∧ R'.length = k ∧ B ≤ wr.heap.size ∧ Hid (YR wr B g A C R') ∧ Hid (YOk H R') ∧ Hid (∀ x ∈ R'.flatten, x ≤ 2 * (m : Int)) ∧ Hid (OwnV wr gy [.int .i64 H, .slice (some ⟨g, 0, none⟩) k k]) ∧ Hid (OwnV wr gr [.int .i64 0, .slice none 0 0]) ∧ Hid (Cur wr cb v n) ∧ Hid (Kept (fun b => b = cb) w wr))
        case atStart => exact ⟨0, R, Nat.zero_le _, rfl, rfl, hRk, hBs, HY, HO, HX, HBX, HR, HC, HW⟩
        case round =>
          clear HY HO HX HBX HR HC HW hBs hRk
          obtain ⟨s, R', hs, rfl, rfl, hRk, hBs, HY, HO, HX, HBX, HR, HC, HW⟩ := hrel
          by_cases hsk : s < k
          case neg =>
            have hsi : ¬ (s : Int) < k := by omega
            have y0 := (unhide HBX).cell (i := 0) rfl
            have y1 := (unhide HBX).cell (i := 1) rfl
            have r0 := (unhide HR).cell (i := 0) rfl
            have r1 := (unhide HR).cell (i := 1) rfl
            have rf := (unhide HR).frozen
            have HN := hide (((unhide HR).set 0 (.int .i64 H) (by simp)).set 1 (.slice (some ⟨g, 0, none⟩) k k) (by simp))
            have hKS := ((Kept.refl (fun b => b = gr) wr).setCell (p := ⟨gr, 0, none⟩) rfl (.int .i64 H)).setCell (p := ⟨gr, 1, none⟩) rfl (.slice (some ⟨g, 0, none⟩) k k)
            have HYN := hide ((unhide HY).kept hKS (fun e => by omega) (fun b h1 _ e => by omega))
            have HCN := hide ((unhide HC).kept hKS (fun b e => by omega))
            have HWN := hide (keptNew (unhide HW) hKS (fun b e => by omega))
            have HRK := hide hRk
            have HBN := hide (Nat.le_trans hBs hKS.size)
            clear hKS HY HC HW HR HBX hRk
            go_wp2
            have k0 := (unhide HN).cell (i := 0) rfl
            have k1 := (unhide HN).cell (i := 1) rfl
            refine bodyPost_ret (v := .agg #[.int .i64 H, .slice (some ⟨g, 0, none⟩) k k]) (by simp [results, Try.results42, go_sem, k0, k1]) rfl ⟨H, g, rfl, B, A, C, R', HYN, HO, unhide HRK, HX, hgw, unhide HBN, unhide HCN, unhide HWN⟩
          have hsi : (s : Int) < k := by omega
          obtain ⟨ml, hml0⟩ : ∃ z, z = (R'.getD s []).length := ⟨_, rfl⟩
          have hlow := (unhide HO).low s (by omega)
          rw [← hml0] at hlow
          have HML0 := hide hml0.symm
          clear hml0
          go_wp2
          go_loopg [12] ml (fun gg tv wr => ∃ (t : Nat) (R' : List (List Int)), t ≤ ml ∧ gg = ml - t ∧ tv = .int .i64 t ∧ (R'.getD s []).length = ml ∧ R'.length = k ∧ B ≤ wr.heap.size ∧ Hid (YR wr B g A C R') ∧ Hid (YOk H R') ∧ Hid (∀ x ∈ R'.flatten, x ≤ 2 * (m : Int)) ∧ Hid (OwnV wr gy [.int .i64 H, .slice (some ⟨g, 0, none⟩) k k]) ∧ Hid (OwnV wr gr [.int .i64 0, .slice none 0 0]) ∧ Hid (Cur wr cb v n) ∧ Hid (Kept (fun b => b = cb) w wr))
          case atStart => exact ⟨0, R', Nat.zero_le _, rfl, rfl, unhide HML0, hRk, hBs, HY, HO, HX, HBX, HR, HC, HW⟩
          case round =>
            clear HY HO HX HBX HR HC HW hBs hRk HML0
            obtain ⟨t, R', ht, rfl, rfl, hml, hRk, hBs, HY, HO, HX, HBX, HR, HC, HW⟩ := hrel
            have hsR : s < R'.length := by omega
            have y1 := (unhide HBX).cell (i := 1) rfl
            have ts := (unhide HY).cell hsR
            unfold sltV at ts
            rw [hml] at ts
            by_cases htm : t < ml
            case neg =>
              have hti : ¬ (t : Int) < ml := by omega
              obtain ⟨ao, eao⟩ : ∃ z, z = (A s).map fun b => (⟨b, 0, none⟩ : Addr) := ⟨_, rfl⟩
              rw [← eao] at ts
              have HRK := hide hRk
              clear eao hml hRk
              go_wp2
              go_roundg (k - (s + 1))
              case measure => omega
              case rel => exact ⟨s + 1, R', by omega, rfl, by go_num, unhide HRK, hBs, HY, HO, HX, HBX, HR, HC, HW⟩
            have hti : (t : Int) < ml := by omega
            obtain ⟨b, hA, hO, hcl, hcm⟩ := (unhide HY).some hsR (by omega)
            rw [hA] at ts
            dsimp only [Option.map] at ts
            have hw1 : IntKind.i64.wrap ((t : Int) + 1) = (t : Int) + 1 := by rw [IntKind.wrap_i64]; omega
            have HQ := hide (l1BelowV_any cb n v ((t : Int) + 1) wr (unhide HC) hn (by omega) (by omega))
            have HRK := hide hRk
            have HML := hide hml
            have HA := hide hA
            clear hO hcl hml hRk hA
            go_wp2_with fail
            refine (unhide HQ).mono ?_
            rintro e w2 ⟨kx, rfl, hk0', hk1', hC, hk⟩
            replace HY := hide ((unhide HY).kept hk (fun e => by omega) (fun b h1 h2 e => by omega))
            replace HBX := hide ((unhide HBX).kept hk (fun e => by omega))
            replace HR := hide ((unhide HR).kept hk (fun e => by omega))
            replace HW := hide ((unhide HW).trans hk)
            replace HC := hide hC
            have hBs2 := Nat.le_trans hBs hk.size
            clear hC hk HQ y1 ts hBs
            obtain ⟨kk, rfl⟩ : ∃ z : Nat, kx = (z : Int) := ⟨kx.toNat, by omega⟩
            have hkm : kk < ml := by omega
            have hkmi : (kk : Int) < ml := by omega
            have y1 := (unhide HBX).cell (i := 1) rfl
            have ts := (unhide HY).cell hsR
            unfold sltV at ts
            rw [unhide HML, unhide HA] at ts
            dsimp only [Option.map] at ts
            obtain ⟨b', hA', hO, hcl, hcm'⟩ := (unhide HY).some hsR (by rw [unhide HML]; omega)
            obtain rfl : b = b' := by rw [unhide HA] at hA'; cases hA'; rfl
            rw [unhide HML] at hcl
            have ct := hO.cell (ints_get _ (i := t) (by rw [unhide HML]; exact htm))
            obtain ⟨rt, ert⟩ : ∃ z, z = (R'.getD s []).getD t 0 := ⟨_, rfl⟩
            rw [← ert] at ct
            have HRT := hide ert
            clear hA' hO ert hcm'
            go_upto_region 18 with (fail)
            clear ct y1 ts
            have hA := unhide HA
            have hml := unhide HML
            obtain ⟨wd, ewd⟩ : ∃ z, z = w2.drew := ⟨_, rfl⟩
            have hb : Below w2.heap.size w2 wd := by rw [ewd]; exact (Below.refl _ _).drew
            have hBd := Nat.le_trans hBs2 hb.size
            replace HY := hide ((unhide HY).below hb)
            replace HBX := hide ((unhide HBX).step hb)
            replace HR := hide ((unhide HR).step hb)
            replace HC := hide ((unhide HC).below hb)
            replace HW := hide ((unhide HW).trans (kept_of_below hb))
            clear hb
            have tsd := (unhide HY).cell hsR
            unfold sltV at tsd
            rw [hA, hml] at tsd
            dsimp only [Option.map] at tsd
            have tyd := (unhide HBX).cell (i := 1) rfl
            obtain ⟨b', hA', hO', hcl', hcm'⟩ := (unhide HY).some hsR (by omega)
            obtain rfl : b = b' := by rw [hA] at hA'; cases hA'; rfl
            have ck := hO'.cell (ints_get _ (i := kk) (by omega))
            have ct := hO'.cell (ints_get _ (i := t) (by omega))
            have cf := hO'.frozen t
            obtain ⟨rk, erk⟩ : ∃ z, z = (R'.getD s []).getD kk 0 := ⟨_, rfl⟩
            rw [← erk] at ck
            have HRKK := hide erk
            clear erk
            refine wp_region_held_drew (S := fun w' => w'.cell? ⟨gy, 1, none⟩ = some (.slice (some ⟨g, 0, none⟩) k k) ∧ w'.cell? ⟨g, s, none⟩ = some (.slice (some ⟨b, 0, none⟩) ml (C s))) (by kernel_rfl) ⟨by rw [← ewd]; exact tyd, by rw [← ewd]; exact tsd⟩ (fun hHeld => ?_)
            rw [← ewd] at hHeld ⊢
            clear ewd
            refine wpAnyH_take (i := 0) (v := ?_) rfl (by kernel_rfl) (by kernel_rfl) (by kernel_rfl) (fun _ _ _ h => h) (Or.inl ⟨by rfl, ?_⟩) (by assumption) ?_
            rotate_left
            · intro wy hSw
              obtain ⟨hS0, hS1⟩ := hSw
              go_simp
              try with_reducible rfl
            try simp only [Act.put, List.getElem_toArray, List.getElem_cons_zero, List.setIfInBounds_toArray, List.set_cons_zero, List.set_cons_succ]
            refine wpAnyH_take (i := 1) (v := ?_) rfl (by kernel_rfl) (by kernel_rfl) (by kernel_rfl) (fun _ _ _ h => h) (Or.inl ⟨by rfl, ?_⟩) (by assumption) ?_
            rotate_left
            · intro wy hSw
              obtain ⟨hS0, hS1⟩ := hSw
              go_simp
              try with_reducible rfl
            try simp only [Act.put, List.getElem_toArray, List.getElem_cons_succ, List.getElem_cons_zero, List.setIfInBounds_toArray, List.set_cons_zero, List.set_cons_succ]
            refine wpAnyH_take (i := 2) (v := ?_) rfl (by kernel_rfl) (by kernel_rfl) (by kernel_rfl) (fun _ _ _ h => h) (Or.inl ⟨by rfl, ?_⟩) (by assumption) ?_
            rotate_left
            · intro wy hSw
              obtain ⟨hS0, hS1⟩ := hSw
              go_simp
              try with_reducible rfl
            try simp only [Act.put, List.getElem_toArray, List.getElem_cons_succ, List.getElem_cons_zero, List.setIfInBounds_toArray, List.set_cons_zero, List.set_cons_succ]
            refine wpAnyH_take (i := 3) (v := ?_) rfl (by kernel_rfl) (by kernel_rfl) (by kernel_rfl) (fun _ _ _ h => h) (Or.inl ⟨by rfl, ?_⟩) (by assumption) ?_
            rotate_left
            · intro wy hSw
              obtain ⟨hS0, hS1⟩ := hSw
              go_simp
              try with_reducible rfl
            try simp only [Act.put, List.getElem_toArray, List.getElem_cons_succ, List.getElem_cons_zero, List.setIfInBounds_toArray, List.set_cons_zero, List.set_cons_succ]
            refine wpAnyH_take (i := 4) (v := ?_) rfl (by kernel_rfl) (by kernel_rfl) (by kernel_rfl) (fun _ _ _ h => h) (Or.inl ⟨by rfl, ?_⟩) (by assumption) ?_
            rotate_left
            · intro wy hSw
              obtain ⟨hS0, hS1⟩ := hSw
              go_simp
              try with_reducible rfl
            try simp only [Act.put, List.getElem_toArray, List.getElem_cons_succ, List.getElem_cons_zero, List.setIfInBounds_toArray, List.set_cons_zero, List.set_cons_succ]
            refine wpAnyH_take (i := 5) (v := ?_) rfl (by kernel_rfl) (by kernel_rfl) (by kernel_rfl) (fun _ _ _ h => h) (Or.inl ⟨by rfl, ?_⟩) (by assumption) ?_
            rotate_left
            · intro wy hSw
              obtain ⟨hS0, hS1⟩ := hSw
              go_simp
              try with_reducible rfl
            try simp only [Act.put, List.getElem_toArray, List.getElem_cons_succ, List.getElem_cons_zero, List.setIfInBounds_toArray, List.set_cons_zero, List.set_cons_succ]
            refine wpAnyH_take (i := 6) (v := ?_) rfl (by kernel_rfl) (by kernel_rfl) (by kernel_rfl) (fun _ _ _ h => h) (Or.inl ⟨by rfl, ?_⟩) (by assumption) ?_
            rotate_left
            · intro wy hSw
              obtain ⟨hS0, hS1⟩ := hSw
              go_simp
              try with_reducible rfl
            try simp only [Act.put, List.getElem_toArray, List.getElem_cons_succ, List.getElem_cons_zero, List.setIfInBounds_toArray, List.set_cons_zero, List.set_cons_succ]
            refine wpAnyH_take (i := 7) (v := ?_) rfl (by kernel_rfl) (by kernel_rfl) (by kernel_rfl) (fun _ _ _ h => h) (Or.inl ⟨by rfl, ?_⟩) (by assumption) ?_
            rotate_left
            · intro wy hSw
              obtain ⟨hS0, hS1⟩ := hSw
              go_simp
              try with_reducible rfl
            try simp only [Act.put, List.getElem_toArray, List.getElem_cons_succ, List.getElem_cons_zero, List.setIfInBounds_toArray, List.set_cons_zero, List.set_cons_succ]
            refine wpAnyH_take (i := 8) (v := ?_) rfl (by kernel_rfl) (by kernel_rfl) (by kernel_rfl) (fun _ _ _ h => h) (Or.inl ⟨by rfl, ?_⟩) (by assumption) ?_
            rotate_left
            · intro wy hSw
              obtain ⟨hS0, hS1⟩ := hSw
              go_simp
              try with_reducible rfl
            try simp only [Act.put, List.getElem_toArray, List.getElem_cons_succ, List.getElem_cons_zero, List.setIfInBounds_toArray, List.set_cons_zero, List.set_cons_succ]
            refine wpAnyH_take (i := 9) (v := ?_) rfl (by kernel_rfl) (by kernel_rfl) (by kernel_rfl) (fun _ _ _ h => h) (Or.inl ⟨by rfl, ?_⟩) (by assumption) ?_
            rotate_left
            · intro wy hSw
              obtain ⟨hS0, hS1⟩ := hSw
              go_simp
              try with_reducible rfl
            try simp only [Act.put, List.getElem_toArray, List.getElem_cons_succ, List.getElem_cons_zero, List.setIfInBounds_toArray, List.set_cons_zero, List.set_cons_succ]
            refine wpAnyH_take (i := 10) (v := ?_) rfl (by kernel_rfl) (by kernel_rfl) (by kernel_rfl) (fun _ _ _ h => h) (Or.inl ⟨by rfl, ?_⟩) (by assumption) ?_
            rotate_left
            · intro wy hSw
              obtain ⟨hS0, hS1⟩ := hSw
              go_simp
              try with_reducible rfl
            try simp only [Act.put, List.getElem_toArray, List.getElem_cons_succ, List.getElem_cons_zero, List.setIfInBounds_toArray, List.set_cons_zero, List.set_cons_succ]
            refine wpAnyH_take (i := 11) (v := ?_) rfl (by kernel_rfl) (by kernel_rfl) (by kernel_rfl) (fun _ _ _ h => h) (Or.inl ⟨by rfl, ?_⟩) (by assumption) ?_
            rotate_left
            · intro wy hSw
              obtain ⟨hS0, hS1⟩ := hSw
              go_simp
              try with_reducible rfl
            try simp only [Act.put, List.getElem_toArray, List.getElem_cons_succ, List.getElem_cons_zero, List.setIfInBounds_toArray, List.set_cons_zero, List.set_cons_succ]
            refine wpAnyH_take (i := 12) (v := ?_) rfl (by kernel_rfl) (by kernel_rfl) (by kernel_rfl) (fun _ _ _ h => h) (Or.inl ⟨by rfl, ?_⟩) (by assumption) ?_
            rotate_left
            · intro wy hSw
              obtain ⟨hS0, hS1⟩ := hSw
              go_simp
              try with_reducible rfl
            try simp only [Act.put, List.getElem_toArray, List.getElem_cons_succ, List.getElem_cons_zero, List.setIfInBounds_toArray, List.set_cons_zero, List.set_cons_succ]
            refine wpAnyH_ready (rs := [13]) (by kernel_rfl) (by simp) ?_
            refine AllReadyH.cons rfl (fun K hK => ?_) AllReadyH.nil
            go_simp
            refine hK.out _ _ ⟨tyd, tsd⟩ (fun hHeld => ?_)
            clear hK K
            try simp only [Act.put, List.setIfInBounds_toArray, List.set_cons_zero, List.set_cons_succ]
            refine wpAnyH_take (i := 14) (v := ?_) rfl (by kernel_rfl) (by kernel_rfl) (by kernel_rfl) (fun _ _ _ h => h) (Or.inl ⟨by rfl, ?_⟩) (by assumption) ?_
            rotate_left
            · intro wy hSw
              obtain ⟨hS0, hS1⟩ := hSw
              go_simp
              try with_reducible rfl
            try simp only [Act.put, List.getElem_toArray, List.getElem_cons_succ, List.getElem_cons_zero, List.setIfInBounds_toArray, List.set_cons_zero, List.set_cons_succ]
            refine wpAnyH_ready (rs := [15]) (by kernel_rfl) (by simp) ?_
            refine AllReadyH.cons rfl (fun K hK => ?_) AllReadyH.nil
            have HY1 := hide ((unhide HY).setCell hsR (i := t) (by omega) hA rk)
            have hKS := (Kept.refl (fun q => q = b) wd).setCell (p := ⟨b, t, none⟩) rfl (.int .i64 rk)
            have hbB := ((unhide HY).rowBlk hsR hA).1
            have HBX1 := hide ((unhide HBX).kept hKS (fun e => by omega))
            have HR1 := hide ((unhide HR).kept hKS (fun e => by omega))
            have HC1 := hide ((unhide HC).kept hKS (fun q e => by omega))
            have HW1 := hide (keptNew (unhide HW) hKS (fun q e => by omega))
            have hB1 := Nat.le_trans hBd hKS.size
            have ty1 := (unhide HBX1).cell (i := 1) rfl
            have ts1 := (unhide HY1).cell (s := s) (by rw [List.length_set]; exact hsR)
            unfold sltV at ts1
            rw [rowset_self hsR, List.length_set, hA, hml] at ts1
            dsimp only [Option.map] at ts1
            go_simp
            clear hKS tyd tsd ck ct cf hO'
            refine hK.out _ _ ⟨ty1, ts1⟩ (fun hHeld => ?_)
            clear hK K
            try simp only [Act.put, List.setIfInBounds_toArray, List.set_cons_zero, List.set_cons_succ]
            refine wpAnyH_done (by kernel_rfl) ?_ _
            have hA2 := unhide HA
            clear hA hml hA' hcl'
            have hsw := swap_ok (unhide HO) hsR (i := t) (k := kk) (by rw [unhide HML]; exact htm) (by rw [unhide HML]; exact hkm)
            rw [← unhide HRKK, ← unhide HRT] at hsw
            obtain ⟨row, erow⟩ : ∃ z, z = (R'.getD s []).set t rk := ⟨_, rfl⟩
            have hrl : row.length = ml := by rw [erow, List.length_set, unhide HML]
            rw [← erow] at HY1 hsw
            have hrs : (R'.set s row).getD s [] = row := rowset_self hsR
            have hsR1 : s < (R'.set s row).length := by rw [List.length_set]; exact hsR
            have HY2 := hide ((unhide HY1).setCell hsR1 (i := kk) (by rw [hrs, hrl]; exact hkm) (unhide HA) rt)
            rw [hrs, List.set_set] at HY2
            have HO2 := hide hsw.1
            have HX2 : Hid (∀ x ∈ (R'.set s (row.set kk rt)).flatten, x ≤ 2 * (m : Int)) := fun x hx => unhide HX x (List.count_pos_iff.1 (by rw [← hsw.2 x]; exact List.count_pos_iff.2 hx))
            have hRk2 : (R'.set s (row.set kk rt)).length = k := by rw [List.length_set]; exact unhide HRK
            have hml2 : ((R'.set s (row.set kk rt)).getD s []).length = ml := by rw [rowset_self hsR, List.length_set, hrl]
            obtain ⟨w5, ew5⟩ : ∃ z, z = wd.setCell ⟨b, t, none⟩ (.int .i64 rk) := ⟨_, rfl⟩
            rw [← ew5] at HY1 HY2 HBX1 HR1 HC1 HW1 ty1 ts1 hB1 ⊢
            have hO5 := (unhide HY1).row s hsR1
            have c5 : ∃ z, w5.cell? ⟨b, kk, none⟩ = some (.int .i64 z) ∧ w5.frozen? ⟨b, kk, none⟩ = false := by
              obtain ⟨b2, hA3, hO3, _, _⟩ := (unhide HY1).some hsR1 (by rw [hrs, hrl]; omega)
              obtain rfl : b = b2 := by rw [unhide HA] at hA3; cases hA3; rfl
              exact ⟨_, hO3.cell (ints_get _ (i := kk) (by rw [hrs, hrl]; exact hkm)), hO3.frozen kk⟩
            obtain ⟨z5, c5, f5⟩ := c5
            have hbB := ((unhide HY1).rowBlk hsR1 (unhide HA)).1
            have hKS := (Kept.refl (fun q => q = b) w5).setCell (p := ⟨b, kk, none⟩) rfl (.int .i64 rt)
            have HBX2 := hide ((unhide HBX1).kept hKS (fun e => by omega))
            have HR2 := hide ((unhide HR1).kept hKS (fun e => by omega))
            have HC2 := hide ((unhide HC1).kept hKS (fun q e => by omega))
            have HW2 := hide (keptNew (unhide HW1) hKS (fun q e => by omega))
            have hB2 := Nat.le_trans hB1 hKS.size
            have HRK2 := hide hRk2
            have HML2 := hide hml2
            clear hKS hsw hrs hrl hO5 HY1 HBX1 HR1 HC1 HW1 hB1 HY HO HX HBX HR HC HW erow ew5 hRk2 hml2 hA2 hsR1
            go_wp2
            go_roundg (ml - (t + 1))
            case measure => omega
            case rel => exact ⟨t + 1, _, by omega, rfl, by go_num, unhide HML2, unhide HRK2, hB2, HY2, HO2, HX2, HBX2, HR2, HC2, HW2⟩
      have hii : (i : Int) < m := by omega
      have hw1 : IntKind.i64.wrap (box + 1) = box + 1 := by rw [IntKind.wrap_i64]; omega
      have HQ := hide (l1BelowV_any cb n v 2 wr (unhide HC) hn (by omega) (by omega))
      go_wp2_with fail
      refine (unhide HQ).mono ?_
      rintro e w1 ⟨d, rfl, hd0, hd1, hC, hk⟩
      replace HY := hide ((unhide HY).kept hk (fun e => by omega) (fun b h1 h2 e => by omega))
      replace HBX := hide ((unhide HBX).kept hk (fun e => by omega))
      replace HR := hide ((unhide HR).kept hk (fun e => by omega))
      replace HW := hide ((unhide HW).trans hk)
      replace HC := hide hC
      have hBs1 := Nat.le_trans hBs hk.size
      clear hC hk HQ
      have hw2 : IntKind.i64.wrap (box + 1 + d) = box + 1 + d := by rw [IntKind.wrap_i64]; omega
      have HQ := hide (l1BelowV_any cb n v (k : Int) w1 (unhide HC) hn (by omega) (by omega))
      go_wp2_with fail
      refine (unhide HQ).mono ?_
      rintro e w2 ⟨sx, rfl, hs0, hs1, hC, hk⟩
      replace HY := hide ((unhide HY).kept hk (fun e => by omega) (fun b h1 h2 e => by omega))
      replace HBX := hide ((unhide HBX).kept hk (fun e => by omega))
      replace HR := hide ((unhide HR).kept hk (fun e => by omega))
      replace HW := hide ((unhide HW).trans hk)
      replace HC := hide hC
      have hBs2 := Nat.le_trans hBs1 hk.size
      clear hC hk HQ
      obtain ⟨s, rfl⟩ : ∃ s : Nat, sx = (s : Int) := ⟨sx.toNat, by omega⟩
      have hsk : s < k := by omega
      have hsR : s < R.length := by omega
      obtain ⟨nb, enb⟩ : ∃ z, z = box + 1 + d := ⟨_, rfl⟩
      have hnb : box < nb ∧ nb ≤ 2 * ((i : Int) + 1) := by omega
      rw [← enb] at hw2 ⊢
      clear enb hw1 hBs hBs1
      have y0 := (unhide HBX).cell (i := 0) rfl
      have y1 := (unhide HBX).cell (i := 1) rfl
      have ts := (unhide HY).cell hsR
      unfold sltV at ts
      obtain ⟨ml, eml⟩ : ∃ z, z = (R.getD s []).length := ⟨_, rfl⟩
      rw [← eml] at ts
      have HML := hide eml
      have hlow := (unhide HO).low s hsR
      rw [← eml] at hlow
      clear eml
      obtain ⟨ao, eao⟩ : ∃ z, z = (A s).map fun b => (⟨b, 0, none⟩ : Addr) := ⟨_, rfl⟩
      rw [← eao] at ts
      have HAO := hide eao
      clear eao
      by_cases hlt : (ml : Int) < H
      case neg =>
        have dl : decide ((ml : Int) < H) = false := decide_eq_false hlt
        replace HX : Hid (∀ x ∈ R.flatten, x ≤ nb) := fun x hx => by have := unhide HX x hx; omega
        go_wp2
        go_quiet (fail)
        go_wp2
        have hb := drewN_below w2.heap.size w2 nq
        replace HY := hide ((unhide HY).below hb)
        replace HBX := hide ((unhide HBX).step hb)
        replace HR := hide ((unhide HR).step hb)
        replace HC := hide ((unhide HC).below hb)
        replace HW := hide ((unhide HW).trans (kept_of_below hb))
        clear hb
        clear y0 y1 ts
        go_roundg (m - (i + 1))
        case measure => omega
        case rel => exact ⟨i + 1, nb, A, C, R, by omega, rfl, rfl, by go_num, by omega, by omega, hRk, hBs2, HY, HO, HX, HBX, HR, HC, HW⟩
      have dl : decide ((ml : Int) < H) = true := decide_eq_true hlt
      go_wp2
      go_quiet (fail)
      have hb := drewN_below w2.heap.size w2 nq
      replace HY := hide ((unhide HY).below hb)
      replace HBX := hide ((unhide HBX).step hb)
      replace HR := hide ((unhide HR).step hb)
      replace HC := hide ((unhide HC).below hb)
      replace HW := hide ((unhide HW).trans (kept_of_below hb))
      clear hb
      obtain ⟨w3, ew3⟩ : ∃ z, z = w2.drewN nq := ⟨_, rfl⟩
      have hBs3 : B ≤ w3.heap.size := by rw [ew3]; exact hBs2
      rw [← ew3] at HY HBX HR HC HW ⊢
      clear y0 y1 ts ew3 hBs2
      have hnm : nb ∉ R.flatten := fun hx => by have := unhide HX nb hx; omega
      have HO2 := hide (in_ok (unhide HO) hsR hnm (by omega) (by omega) (by rw [← unhide HML]; exact hlt))
      have HX2 : Hid (∀ x ∈ (R.set s (R.getD s [] ++ [nb])).flatten, x ≤ nb) := fun x hx => by
        have h1 := in_count nb hsR x
        have h2 := List.count_pos_iff.2 hx
        by_cases e : nb = x
        · omega
        · rw [if_neg e] at h1
          have := unhide HX x (List.count_pos_iff.1 (by omega))
          omega
      have hRk2 : (R.set s (R.getD s [] ++ [nb])).length = k := by rw [List.length_set]; exact hRk
      clear hnm HX HO hlow
      go_upto_region 9 with (fail)
      obtain ⟨wd, ewd⟩ : ∃ z, z = w3.drew := ⟨_, rfl⟩
      have hb : Below w3.heap.size w3 wd := by rw [ewd]; exact (Below.refl _ _).drew
      have hBd := Nat.le_trans hBs3 hb.size
      replace HY := hide ((unhide HY).below hb)
      replace HBX := hide ((unhide HBX).step hb)
      replace HR := hide ((unhide HR).step hb)
      replace HC := hide ((unhide HC).below hb)
      replace HW := hide ((unhide HW).trans (kept_of_below hb))
      clear hb
      refine wp_region_held_drew (S := fun w' => w'.cell? ⟨gy, 1, none⟩ = some (.slice (some ⟨g, 0, none⟩) k k)) (by kernel_rfl) (by rw [← ewd]; exact (unhide HBX).cell (i := 1) rfl) (fun hHeld => ?_)
      rw [← ewd] at hHeld ⊢
      clear ewd
      have ts := (unhide HY).cell hsR
      unfold sltV at ts
      rw [← unhide HML, ← unhide HAO] at ts
      refine wpAnyH_take (i := 0) (v := ?_) rfl (by kernel_rfl) (by kernel_rfl) (by kernel_rfl) (fun _ _ _ h => h) (Or.inl ⟨by rfl, ?_⟩) (by assumption) ?_
      rotate_left
      · intro wy hSw
        have hS0 := hSw
        go_simp
        try with_reducible rfl
      try simp only [Act.put, List.getElem_toArray, List.getElem_cons_zero, List.setIfInBounds_toArray, List.set_cons_zero, List.set_cons_succ]
      refine wpAnyH_take (i := 1) (v := ?_) rfl (by kernel_rfl) (by kernel_rfl) (by kernel_rfl) (fun _ _ _ h => h) (Or.inl ⟨by rfl, ?_⟩) (by assumption) ?_
      rotate_left
      · intro wy hSw
        have hS0 := hSw
        go_simp
        try with_reducible rfl
      try simp only [Act.put, List.getElem_toArray, List.getElem_cons_succ, List.getElem_cons_zero, List.setIfInBounds_toArray, List.set_cons_zero, List.set_cons_succ]
      refine wpAnyH_take (i := 2) (v := ?_) rfl (by kernel_rfl) (by kernel_rfl) (by kernel_rfl) (fun _ _ _ h => h) (Or.inl ⟨by rfl, ?_⟩) (by assumption) ?_
      rotate_left
      · intro wy hSw
        have hS0 := hSw
        go_simp
        try with_reducible rfl
      try simp only [Act.put, List.getElem_toArray, List.getElem_cons_succ, List.getElem_cons_zero, List.setIfInBounds_toArray, List.set_cons_zero, List.set_cons_succ]
      refine wpAnyH_take (i := 3) (v := ?_) rfl (by kernel_rfl) (by kernel_rfl) (by kernel_rfl) (fun _ _ _ h => h) (Or.inl ⟨by rfl, ?_⟩) (by assumption) ?_
      rotate_left
      · intro wy hSw
        have hS0 := hSw
        go_simp
        try with_reducible rfl
      try simp only [Act.put, List.getElem_toArray, List.getElem_cons_succ, List.getElem_cons_zero, List.setIfInBounds_toArray, List.set_cons_zero, List.set_cons_succ]
      refine wpAnyH_take (i := 4) (v := ?_) rfl (by kernel_rfl) (by kernel_rfl) (by kernel_rfl) (fun _ _ _ h => h) (Or.inl ⟨by rfl, ?_⟩) (by assumption) ?_
      rotate_left
      · intro wy hSw
        have hS0 := hSw
        go_simp
        try with_reducible rfl
      try simp only [Act.put, List.getElem_toArray, List.getElem_cons_succ, List.getElem_cons_zero, List.setIfInBounds_toArray, List.set_cons_zero, List.set_cons_succ]
      refine wpAnyH_take (i := 5) (v := ?_) rfl (by kernel_rfl) (by kernel_rfl) (by kernel_rfl) (fun _ _ _ h => h) (Or.inl ⟨by rfl, ?_⟩) (by assumption) ?_
      rotate_left
      · intro wy hSw
        have hS0 := hSw
        go_simp
        try with_reducible rfl
      try simp only [Act.put, List.getElem_toArray, List.getElem_cons_succ, List.getElem_cons_zero, List.setIfInBounds_toArray, List.set_cons_zero, List.set_cons_succ]
      refine wpAnyH_take (i := 6) (v := ?_) rfl (by kernel_rfl) (by kernel_rfl) (by kernel_rfl) (fun _ _ _ h => h) (Or.inl ⟨by rfl, ?_⟩) (by assumption) ?_
      rotate_left
      · intro wy hSw
        have hS0 := hSw
        go_simp
        try with_reducible rfl
      try simp only [Act.put, List.getElem_toArray, List.getElem_cons_succ, List.getElem_cons_zero, List.setIfInBounds_toArray, List.set_cons_zero, List.set_cons_succ]
      refine wpAnyH_take (i := 8) (v := ?_) rfl (by kernel_rfl) (by kernel_rfl) (by kernel_rfl) (fun _ _ _ h => h) (Or.inl ⟨by rfl, ?_⟩) (by assumption) ?_
      rotate_left
      · intro wy hSw
        have hS0 := hSw
        go_simp
        try with_reducible rfl
      try simp only [Act.put, List.getElem_toArray, List.getElem_cons_succ, List.getElem_cons_zero, List.setIfInBounds_toArray, List.set_cons_zero, List.set_cons_succ]
      refine wpAnyH_ready (rs := [7, 9]) (by kernel_rfl) (by simp) ?_
      refine AllReadyH.cons rfl (fun K hK => ?_) (AllReadyH.cons rfl (fun K hK => ?_) AllReadyH.nil)
      · go_simp
        refine hK.out _ _ ((unhide HBX).cell (i := 1) rfl) (fun hHeld => ?_)
        clear hK K
        try simp only [Act.put, List.setIfInBounds_toArray, List.set_cons_zero, List.set_cons_succ]
        refine wpAnyH_ready (rs := [9]) (by kernel_rfl) (by simp) ?_
        refine AllReadyH.cons rfl (fun K hK => ?_) AllReadyH.nil
        have hb := Below.alloc1 wd (.cells #[.int .i64 nb] 3)
        have HXA := hide (recs_oneI wd nb 3)
        go_simp
        obtain ⟨wa, ewa⟩ : ∃ z, z = wd.alloc (.cells #[.int .i64 nb] 3) := ⟨_, rfl⟩
        obtain ⟨ga, ega⟩ : ∃ z, z = wd.heap.size := ⟨_, rfl⟩
        rw [← ewa] at hb HXA ⊢
        rw [← ega] at HXA ⊢
        have hBa := Nat.le_trans hBd hb.size
        replace HY := hide ((unhide HY).below hb)
        replace HBX := hide ((unhide HBX).step hb)
        replace HR := hide ((unhide HR).step hb)
        replace HC := hide ((unhide HC).below hb)
        replace HW := hide ((unhide HW).trans (kept_of_below hb))
        clear hb ewa ega ts
        refine hK.out _ _ ((unhide HBX).cell (i := 1) rfl) (fun hHeld => ?_)
        clear hK K
        try simp only [Act.put, List.setIfInBounds_toArray, List.set_cons_zero, List.set_cons_succ]
        refine wpAnyH_ready (rs := [10]) (by kernel_rfl) (by simp) ?_
        refine AllReadyH.cons rfl (fun K hK => ?_) AllReadyH.nil
        have hrow := (unhide HY).row s hsR
        rw [← unhide HML, ← unhide HAO] at hrow
        refine step_appOne tyI (by rfl) (.tmp 50) (.tmp 52) (by rfl) B ao ml (C s) (R.getD s []) (by rfl) hrow hBa (by omega) (some ⟨ga, 0, none⟩) 1 nb (by rfl) (unhide HXA) ?_
        intro g1 c1 w5 hr1 hk5 hg1 hor
        have hk6 : Kept (fun b => A s = some b) wa w5 := hk5.mono (fun b _ e => by rw [unhide HAO] at e; cases e2 : A s with | none => rw [e2] at e; cases e | some b' => rw [e2] at e; simp only [Option.map_some, Option.some.injEq, Addr.mk.injEq, and_true] at e; rw [e])
        have hor2 : A s = some g1 ∨ wa.heap.size ≤ g1 := by
          rcases hor with e | e
          · left; rw [unhide HAO] at e; cases e2 : A s with | none => rw [e2] at e; cases e | some b' => rw [e2] at e; simp only [Option.map_some, Option.some.injEq, Addr.mk.injEq, and_true] at e; rw [e]
          · right; omega
        have hAB : ∀ b, A s = some b → B ≤ b := fun b e => ((unhide HY).rowBlk hsR e).1
        have hml : (R.getD s [] ++ [nb]).length = ml + 1 := by rw [List.length_append, ← unhide HML]; rfl
        rw [← hml] at hr1
        have HYN := hide ((unhide HY).put hsR hk6 hr1 hor2)
        rw [hml] at HYN
        unfold sltV at HYN
        have HBX5 := hide ((unhide HBX).kept hk6 (fun e => by have := hAB _ e; omega))
        have HR5 := hide ((unhide HR).kept hk6 (fun e => by have := hAB _ e; omega))
        have HC5 := hide ((unhide HC).kept hk6 (fun b e => by have := hAB _ e; omega))
        have HW5 := hide (keptNew (unhide HW) hk6 (fun b e => by have := hAB _ e; omega))
        have hB5 := Nat.le_trans hBa hk6.size
        have ts0 := ((unhide HY).top.kept hk6 (fun e => by have := hAB _ e; omega))
        have ts5 := ts0.cell (topsR_get A C R hsR)
        have tf5 := ts0.frozen s
        unfold sltV at ts5
        clear hr1 hk5 hk6 hor hor2 hrow hAB hml HXA HY HBX HR HC HW hg1 ts0
        refine hK.out _ _ ((unhide HBX5).cell (i := 1) rfl) (fun hHeld => ?_)
        clear hK K
        try simp only [Act.put, List.setIfInBounds_toArray]
        refine wpAnyH_take (i := 11) (v := ?_) rfl (by kernel_rfl) (by kernel_rfl) (by kernel_rfl) (fun _ _ _ h => h) (Or.inl ⟨by rfl, ?_⟩) (by assumption) ?_
        rotate_left
        · intro wy hSw
          have hS0 := hSw
          go_simp
          try with_reducible rfl
        try simp only [Act.put, List.getElem_toArray, List.getElem_cons_succ, List.getElem_cons_zero, List.setIfInBounds_toArray, List.set_cons_zero, List.set_cons_succ]
        refine wpAnyH_ready (rs := [12]) (by kernel_rfl) (by simp) ?_
        refine AllReadyH.cons rfl (fun K hK => ?_) AllReadyH.nil
        have hKS := (Kept.refl (fun b => b = g) w5).setCell (p := ⟨g, s, none⟩) rfl (.slice (some ⟨g1, 0, none⟩) (ml + 1) c1)
        have HBX6 := hide ((unhide HBX5).kept hKS (fun e => by omega))
        have HR6 := hide ((unhide HR5).kept hKS (fun e => by omega))
        have HC6 := hide ((unhide HC5).kept hKS (fun b e => by omega))
        have HW6 := hide (keptNew (unhide HW5) hKS (fun b e => by omega))
        have hB6 := Nat.le_trans hB5 hKS.size
        clear hKS HBX5 HR5 HC5 HW5
        go_simp
        clear ts5 tf5
        refine hK.out _ _ ((unhide HBX6).cell (i := 1) rfl) (fun hHeld => ?_)
        clear hK K
        try simp only [Act.put, List.setIfInBounds_toArray, List.set_cons_zero, List.set_cons_succ]
        refine wpAnyH_done (by kernel_rfl) ?_ _
        go_wp2
        go_roundg (m - (i + 1))
        case measure => omega
        case rel => exact ⟨i + 1, nb, _, _, _, by omega, rfl, rfl, by go_num, by omega, by omega, hRk2, hB6, HYN, HO2, HX2, HBX6, HR6, HC6, HW6⟩
      · have hb := Below.alloc1 wd (.cells #[.int .i64 nb] 3)
        have HXA := hide (recs_oneI wd nb 3)
        go_simp
        obtain ⟨wa, ewa⟩ : ∃ z, z = wd.alloc (.cells #[.int .i64 nb] 3) := ⟨_, rfl⟩
        obtain ⟨ga, ega⟩ : ∃ z, z = wd.heap.size := ⟨_, rfl⟩
        rw [← ewa] at hb HXA ⊢
        rw [← ega] at HXA ⊢
        have hBa := Nat.le_trans hBd hb.size
        replace HY := hide ((unhide HY).below hb)
        replace HBX := hide ((unhide HBX).step hb)
        replace HR := hide ((unhide HR).step hb)
        replace HC := hide ((unhide HC).below hb)
        replace HW := hide ((unhide HW).trans (kept_of_below hb))
        clear hb ewa ega ts
        refine hK.out _ _ ((unhide HBX).cell (i := 1) rfl) (fun hHeld => ?_)
        clear hK K
        try simp only [Act.put, List.setIfInBounds_toArray, List.set_cons_zero, List.set_cons_succ]
        refine wpAnyH_ready (rs := [7]) (by kernel_rfl) (by simp) ?_
        refine AllReadyH.cons rfl (fun K hK => ?_) AllReadyH.nil
        have ts := (unhide HY).cell hsR
        unfold sltV at ts
        rw [← unhide HML, ← unhide HAO] at ts
        go_simp
        clear ts
        refine hK.out _ _ ((unhide HBX).cell (i := 1) rfl) (fun hHeld => ?_)
        clear hK K
        try simp only [Act.put, List.setIfInBounds_toArray, List.set_cons_zero, List.set_cons_succ]
        refine wpAnyH_ready (rs := [10]) (by kernel_rfl) (by simp) ?_
        refine AllReadyH.cons rfl (fun K hK => ?_) AllReadyH.nil
        have hrow := (unhide HY).row s hsR
        rw [← unhide HML, ← unhide HAO] at hrow
        refine step_appOne tyI (by rfl) (.tmp 50) (.tmp 52) (by rfl) B ao ml (C s) (R.getD s []) (by rfl) hrow hBa (by omega) (some ⟨ga, 0, none⟩) 1 nb (by rfl) (unhide HXA) ?_
        intro g1 c1 w5 hr1 hk5 hg1 hor
        have hk6 : Kept (fun b => A s = some b) wa w5 := hk5.mono (fun b _ e => by rw [unhide HAO] at e; cases e2 : A s with | none => rw [e2] at e; cases e | some b' => rw [e2] at e; simp only [Option.map_some, Option.some.injEq, Addr.mk.injEq, and_true] at e; rw [e])
        have hor2 : A s = some g1 ∨ wa.heap.size ≤ g1 := by
          rcases hor with e | e
          · left; rw [unhide HAO] at e; cases e2 : A s with | none => rw [e2] at e; cases e | some b' => rw [e2] at e; simp only [Option.map_some, Option.some.injEq, Addr.mk.injEq, and_true] at e; rw [e]
          · right; omega
        have hAB : ∀ b, A s = some b → B ≤ b := fun b e => ((unhide HY).rowBlk hsR e).1
        have hml : (R.getD s [] ++ [nb]).length = ml + 1 := by rw [List.length_append, ← unhide HML]; rfl
        rw [← hml] at hr1
        have HYN := hide ((unhide HY).put hsR hk6 hr1 hor2)
        rw [hml] at HYN
        unfold sltV at HYN
        have HBX5 := hide ((unhide HBX).kept hk6 (fun e => by have := hAB _ e; omega))
        have HR5 := hide ((unhide HR).kept hk6 (fun e => by have := hAB _ e; omega))
        have HC5 := hide ((unhide HC).kept hk6 (fun b e => by have := hAB _ e; omega))
        have HW5 := hide (keptNew (unhide HW) hk6 (fun b e => by have := hAB _ e; omega))
        have hB5 := Nat.le_trans hBa hk6.size
        have ts0 := ((unhide HY).top.kept hk6 (fun e => by have := hAB _ e; omega))
        have ts5 := ts0.cell (topsR_get A C R hsR)
        have tf5 := ts0.frozen s
        unfold sltV at ts5
        clear hr1 hk5 hk6 hor hor2 hrow hAB hml HXA HY HBX HR HC HW hg1 ts0
        refine hK.out _ _ ((unhide HBX5).cell (i := 1) rfl) (fun hHeld => ?_)
        clear hK K
        try simp only [Act.put, List.setIfInBounds_toArray]
        refine wpAnyH_take (i := 11) (v := ?_) rfl (by kernel_rfl) (by kernel_rfl) (by kernel_rfl) (fun _ _ _ h => h) (Or.inl ⟨by rfl, ?_⟩) (by assumption) ?_
        rotate_left
        · intro wy hSw
          have hS0 := hSw
          go_simp
          try with_reducible rfl
        try simp only [Act.put, List.getElem_toArray, List.getElem_cons_succ, List.getElem_cons_zero, List.setIfInBounds_toArray, List.set_cons_zero, List.set_cons_succ]
        refine wpAnyH_ready (rs := [12]) (by kernel_rfl) (by simp) ?_
        refine AllReadyH.cons rfl (fun K hK => ?_) AllReadyH.nil
        have hKS := (Kept.refl (fun b => b = g) w5).setCell (p := ⟨g, s, none⟩) rfl (.slice (some ⟨g1, 0, none⟩) (ml + 1) c1)
        have HBX6 := hide ((unhide HBX5).kept hKS (fun e => by omega))
        have HR6 := hide ((unhide HR5).kept hKS (fun e => by omega))
        have HC6 := hide ((unhide HC5).kept hKS (fun b e => by omega))
        have HW6 := hide (keptNew (unhide HW5) hKS (fun b e => by omega))
        have hB6 := Nat.le_trans hB5 hKS.size
        clear hKS HBX5 HR5 HC5 HW5
        go_simp
        clear ts5 tf5
        refine hK.out _ _ ((unhide HBX6).cell (i := 1) rfl) (fun hHeld => ?_)
        clear hK K
        try simp only [Act.put, List.setIfInBounds_toArray, List.set_cons_zero, List.set_cons_succ]
        refine wpAnyH_done (by kernel_rfl) ?_ _
        go_wp2
        go_roundg (m - (i + 1))
        case measure => omega
        case rel => exact ⟨i + 1, nb, _, _, _, by omega, rfl, rfl, by go_num, by omega, by omega, hRk2, hB6, HYN, HO2, HX2, HBX6, HR6, HC6, HW6⟩

end Go.Proofs.Ytjllilmiloippaa

namespace Go.Proofs.Ytjllilmiloippaa

/-- Boxes in the first k stacks. -/
def lenY (R : List (List Int)) : Nat → Nat
  | 0 => 0
  | k + 1 => lenY R k + (R.getD k []).length
theorem lenY_take {R : List (List Int)} : ∀ {k : Nat}, k ≤ R.length → lenY R k = (R.take k).flatten.length
  | 0, _ => rfl
  | k + 1, h => by
    simp only [lenY]
    rw [lenY_take (by omega), List.take_add_one, List.flatten_append, List.length_append, getD_lt (by omega), List.getElem?_eq_getElem (by omega)]
    simp
theorem lenY_all (R : List (List Int)) : lenY R R.length = R.flatten.length := by
  rw [lenY_take (Nat.le_refl _), List.take_length]
theorem lenY_le {H : Int} {R : List (List Int)} (h : YOk H R) : ∀ {k : Nat}, k ≤ R.length → lenY R k ≤ 6 * k
  | 0, _ => Nat.le_refl _
  | k + 1, hk => by
    have := lenY_le h (k := k) (by omega)
    have := h.low k (by omega)
    have := h.h2
    simp only [lenY]
    omega

/-- Boxes are neither made nor lost. -/
theorem do_flen2 {H : Int} {R : List (List Int)} (h : YOk H R) (k b s : Int) :
    (((doY H R k b s).1.flatten.length : Nat) : Int) = (R.flatten.length : Int) + (if (doY H R k b s).2.2 = 0 ∧ k = 1 then 1 else 0) - (if (doY H R k b s).2.2 = 0 ∧ k = 2 then 1 else 0) := by
  unfold doY
  by_cases ho : opB R.length k b s = true
  · rw [if_neg (by simp [h, ho])]
    by_cases e1 : k = 1
    · subst e1
      obtain ⟨h1, h2, h3, h4⟩ := opB_in ho
      rw [if_pos rfl]
      by_cases e2 : (findB R b).isSome = true
      · rw [if_pos e2]; simp
      · rw [if_neg e2]
        by_cases e3 : ((R.getD s.toNat []).length : Int) = H
        · rw [if_pos e3]; simp
        · rw [if_neg e3]
          have := set_flat_len R s.toNat (R.getD s.toNat [] ++ [b]) (by omega)
          rw [List.length_append, List.length_singleton] at this
          rw [if_pos ⟨rfl, rfl⟩, if_neg (by simp)]
          simp only [] at this ⊢
          omega
    · rw [if_neg e1]
      by_cases e2 : k = 3
      · subst e2
        obtain ⟨h1, h2, h3, h4, h5⟩ := opB_sh ho
        rw [if_pos rfl]
        by_cases e3 : (R.getD b.toNat []).length = 0
        · rw [if_pos e3]; simp
        · rw [if_neg e3]
          by_cases e4 : ((R.getD s.toNat []).length : Int) = H
          · rw [if_pos e4]; simp
          · rw [if_neg e4]
            have := shift_flen (R := R) (a := b.toNat) (b := s.toNat) (by omega) (by omega) (by omega) (by omega)
            simp [this]
      · have e3 := opB_kind ho e1 e2
        subst e3
        rw [if_neg e2]
        cases hf : findB R b with
        | none => simp
        | some p =>
          obtain ⟨p1, p2, p3⟩ := findB_at hf
          cases hm : offY H p.1 ((R.getD p.1 []).length - (p.2 + 1)) R with
          | none => simp only [hm]; simp
          | some M =>
            obtain ⟨g1, g2, g3, g4⟩ := off_ok hm h p1 (by omega)
            have := set_flat_len M p.1 ((M.getD p.1 []).take p.2) (by omega)
            rw [g3, List.length_take, List.length_take, List.length_take] at this
            simp only [hm]
            rw [if_neg (fun x => e1 x.2), if_pos (And.intro trivial trivial), g3]
            omega
  · rw [if_pos (by simp [ho])]; simp

/-- What was reshuffled stood above. -/
theorem do_out2 {H : Int} {R : List (List Int)} (h : YOk H R) {b s : Int} (hx : (doY H R 2 b s).2.2 = 0) : ∃ p : Nat × Nat, findB R b = some p ∧ (doY H R 2 b s).2.1 = ((R.getD p.1 []).length : Int) - (p.2 : Int) - 1 := by
  revert hx
  unfold doY
  by_cases ho : opB R.length 2 b s = true
  · rw [if_neg (by simp [h, ho]), if_neg (by decide), if_neg (by decide)]
    cases hf : findB R b with
    | none => simp
    | some p =>
      obtain ⟨p1, p2, p3⟩ := findB_at hf
      cases hm : offY H p.1 ((R.getD p.1 []).length - (p.2 + 1)) R with
      | none => simp only [hm]; simp
      | some M =>
        intro _
        refine ⟨p, rfl, ?_⟩
        simp only [hm]
        omega
  · rw [if_pos (by simp [ho])]; simp

end Go.Proofs.Ytjllilmiloippaa

namespace Go.Proofs.Ytjllilmiloippaa
open Go.RowKit

abbrev KC (cb : Nat) (w W : World) : Prop := Kept (fun b => b = cb) w W
theorem Kept.own {T P : Nat → Prop} {w W V : World} (h : Kept T w W) (k : Kept P W V) (hp : ∀ b, P b → w.heap.size ≤ b) : Kept T w V :=
  ⟨k.os.trans h.os, k.tape.trans h.tape, k.output.trans h.output, Nat.le_trans h.size k.size, fun i hi ht => (k.block i (Nat.lt_of_lt_of_le hi h.size) (fun hb => by have := hp i hb; omega)).trans (h.block i hi ht)⟩
theorem kept1 (W : World) (g j : Nat) (x : Value) : Kept (fun b => b = g) W (W.setCell ⟨g, j, none⟩ x) := Kept.setCell (T := fun b => b = g) (Kept.refl _ W) (p := ⟨g, j, none⟩) rfl x
theorem own3 {W : World} {g : Nat} {a0 a1 a2 : Value} (h : OwnV W g [a0, a1, a2]) (X Y U : Int) : OwnV (((W.setCell ⟨g, 0, none⟩ (.int .i64 X)).setCell ⟨g, 1, none⟩ (.int .i64 Y)).setCell ⟨g, 2, none⟩ (.int .i64 U)) g [.int .i64 X, .int .i64 Y, .int .i64 U] :=
  ((h.set 0 _ (by simp)).set 1 _ (by simp)).set 2 _ (by simp)
theorem kept3 (W : World) (g : Nat) (X Y U : Int) : Kept (fun b => b = g) W (((W.setCell ⟨g, 0, none⟩ (.int .i64 X)).setCell ⟨g, 1, none⟩ (.int .i64 Y)).setCell ⟨g, 2, none⟩ (.int .i64 U)) := ((kept1 W g 0 _).trans (kept1 _ g 1 _)).trans (kept1 _ g 2 _)

set_option maxRecDepth 100000 in
set_option maxHeartbeats 8000000 in
theorem l18DrawOp_any (cb n : Nat) (v : Value) (w : World) (h : Cur w cb v n) (hn : n ≤ 1048576) :
    Calls Try.prog 44 #[.pointer (some ⟨cb, 0, none⟩)] w fun e w' => ∃ X Y U, e = .returned (vYardOp X Y U) ∧ Cur w' cb v n ∧ KC cb w w' := by
  have QB := hide fun W (hW : Cur W cb v n) k h0 h1 => l1BelowV_any cb n v k W hW hn h0 h1
  have hcb := h.lt
  have hA := Below.alloc1 w (.cells #[.int .i64 0, .int .i64 0, .int .i64 0] 34)
  have HG := hide (ownV_alloc w #[.int .i64 0, .int .i64 0, .int .i64 0] 34)
  obtain ⟨V0, eV0⟩ : ∃ V, V = w.alloc (.cells #[.int .i64 0, .int .i64 0, .int .i64 0] 34) := ⟨_, rfl⟩
  rw [← eV0] at hA HG
  have HC := hide (h.below hA)
  have HK := hide (kept_of_below (T := fun b => b = cb) hA)
  obtain ⟨g2, eg2⟩ : ∃ g, g = w.heap.size := ⟨_, rfl⟩
  rw [← eg2] at HG
  have hg2 : cb < g2 := by omega
  have hg2w : w.heap.size ≤ g2 := by omega
  clear h hA
  go_enter Try.func44, Try.ntmps44
  go_wp2_with fail
  rw [← eV0, ← eg2]
  clear eV0 eg2
  refine (unhide QB _ (unhide HC) 3 (by omega) (by omega)).mono ?_
  rintro e W1 ⟨x, rfl, hx0, hx1, hC, hK⟩
  replace HC := hide hC
  replace HG := hide ((unhide HG).kept hK (fun e => by have e : g2 = cb := e; omega))
  replace HK := hide ((unhide HK).trans hK)
  clear hC hK
  obtain ⟨X, eX⟩ : ∃ z, z = 1 + x := ⟨_, rfl⟩
  have qX : IntKind.i64.wrap (1 + x) = X := by rw [← eX, IntKind.wrap_i64]; omega
  have pX : 1 + x = X := eX.symm
  have hX : 1 ≤ X ∧ X ≤ 3 := by omega
  clear eX
  go_wp2_with fail
  refine (unhide QB _ (unhide HC) 26 (by omega) (by omega)).mono ?_
  rintro e W2 ⟨y, rfl, hy0, hy1, hC, hK⟩
  replace HC := hide hC
  replace HG := hide ((unhide HG).kept hK (fun e => by have e : g2 = cb := e; omega))
  replace HK := hide ((unhide HK).trans hK)
  clear hC hK
  obtain ⟨Y, eY⟩ : ∃ z, z = 1 + y := ⟨_, rfl⟩
  have qY : IntKind.i64.wrap (1 + y) = Y := by rw [← eY, IntKind.wrap_i64]; omega
  have pY : 1 + y = Y := eY.symm
  have hY : 1 ≤ Y ∧ Y ≤ 26 := by omega
  clear eY
  go_wp2_with fail
  refine (unhide QB _ (unhide HC) 5 (by omega) (by omega)).mono ?_
  rintro e W3 ⟨U, rfl, hU0, hU1, hC, hK⟩
  replace HC := hide hC
  replace HG := hide ((unhide HG).kept hK (fun e => by have e : g2 = cb := e; omega))
  replace HK := hide ((unhide HK).trans hK)
  clear hC hK
  obtain ⟨gs, egs⟩ : ∃ q, q = W3.heap.size := ⟨_, rfl⟩
  have hgs : g2 < gs := by have := (unhide HG).lt; omega
  obtain ⟨V5, eV5⟩ : ∃ V, V = W3.alloc (.cells #[.int .i64 X, .int .i64 Y, .int .i64 U] 34) := ⟨_, rfl⟩
  have hA5 : Below W3.heap.size W3 V5 := by rw [eV5]; exact Below.alloc1 _ _
  have HS : Hid (OwnV V5 gs [.int .i64 X, .int .i64 Y, .int .i64 U]) := by show OwnV _ _ _; rw [eV5, egs]; exact ownV_alloc _ _ _
  replace HG := hide ((unhide HG).step hA5)
  replace HC := hide ((unhide HC).below hA5)
  replace HK := hide ((unhide HK).trans (kept_of_below hA5))
  go_upto_region 2 with (fail)
  rw [← eV5, ← egs]
  clear eV5 egs hA5 qX qY pX pY
  have s0 := (unhide HS).cell (i := 0) rfl
  by_cases e3 : X = 3
  case pos =>
    subst e3
    clear hX
    go_upto_region 3 with (fail)
    clear s0
    go_wp2_with fail
    refine (unhide QB _ (unhide HC) 5 (by omega) (by omega)).mono ?_
    rintro e W11 ⟨b, rfl, hb0, hb1, hC, hK⟩
    replace HC := hide hC
    replace HG := hide ((unhide HG).kept hK (fun e => by have e : g2 = cb := e; omega))
    replace HS := hide ((unhide HS).kept hK (fun e => by have e : gs = cb := e; omega))
    replace HK := hide ((unhide HK).trans hK)
    clear hC hK
    have s0 := (unhide HS).cell (i := 1) rfl
    have sf := (unhide HS).frozen 1
    obtain ⟨Yb, eWn⟩ : ∃ Wq, Wq = W11.setCell ⟨gs, 1, none⟩ (.int .i64 (b)) := ⟨_, rfl⟩
    have hkp := kept1 W11 gs 1 (.int .i64 (b))
    rw [← eWn] at hkp
    replace HS : Hid (OwnV Yb gs [.int .i64 3, .int .i64 b, .int .i64 U]) := by show OwnV _ _ _; rw [eWn]; exact (unhide HS).set 1 _ (by simp)
    replace HG := hide ((unhide HG).kept hkp (fun e => by have e : g2 = gs := e; omega))
    replace HC := hide ((unhide HC).kept hkp (fun b hb => by have hb : b = gs := hb; omega))
    replace HK := hide ((unhide HK).own hkp (fun b hb => by have hb : b = gs := hb; omega))
    go_upto_region 4 with (fail)
    rw [← eWn]
    clear eWn hkp s0 sf
    go_wp2_with fail
    refine (unhide QB _ (unhide HC) 40 (by omega) (by omega)).mono ?_
    rintro e W21 ⟨z, rfl, hz0, hz1, hC, hK⟩
    replace HC := hide hC
    replace HG := hide ((unhide HG).kept hK (fun e => by have e : g2 = cb := e; omega))
    replace HS := hide ((unhide HS).kept hK (fun e => by have e : gs = cb := e; omega))
    replace HK := hide ((unhide HK).trans hK)
    clear hC hK
    by_cases e0 : z = 0
    case pos =>
      subst e0
      clear hz0 hz1
      go_upto_region 6 with (fail)
      have hA := Below.alloc1 W21 (.cells #[.int .i64 0, .int .i64 4] 3)
      have HI := hide (ownV_alloc W21 #[.int .i64 0, .int .i64 4] 3)
      have hne : ¬ W21.heap.size = cb := by have := (unhide HC).lt; omega
      replace HG := hide ((unhide HG).step hA)
      replace HS := hide ((unhide HS).step hA)
      replace HC := hide ((unhide HC).below hA)
      replace HK := hide ((unhide HK).trans (kept_of_below hA))
      clear hA
      go_wp2_with fail
      refine (l1PickInt_any cb n v _ 2 [0, 4] _ (unhide HC) hn (unhide HI) hne rfl (by omega) (by omega)).mono ?_
      rintro e W21p ⟨q0, rfl, hC, hK⟩
      clear HI hne
      replace HC := hide hC
      replace HG := hide ((unhide HG).kept hK (fun e => by have e : g2 = cb := e; omega))
      replace HS := hide ((unhide HS).kept hK (fun e => by have e : gs = cb := e; omega))
      replace HK := hide ((unhide HK).trans hK)
      clear hC hK
      have s0 := (unhide HS).cell (i := 0) rfl
      have sf := (unhide HS).frozen 0
      obtain ⟨Y0, eWn⟩ : ∃ Wq, Wq = W21p.setCell ⟨gs, 0, none⟩ (.int .i64 (q0)) := ⟨_, rfl⟩
      have hkp := kept1 W21p gs 0 (.int .i64 (q0))
      rw [← eWn] at hkp
      replace HS : Hid (OwnV Y0 gs [.int .i64 q0, .int .i64 b, .int .i64 U]) := by show OwnV _ _ _; rw [eWn]; exact (unhide HS).set 0 _ (by simp)
      replace HG := hide ((unhide HG).kept hkp (fun e => by have e : g2 = gs := e; omega))
      replace HC := hide ((unhide HC).kept hkp (fun b hb => by have hb : b = gs := hb; omega))
      replace HK := hide ((unhide HK).own hkp (fun b hb => by have hb : b = gs := hb; omega))
      go_upto_region 11 with (fail)
      rw [← eWn]
      clear eWn hkp s0 sf
      have s0 := (unhide HS).cell (i := 0) rfl
      have s1 := (unhide HS).cell (i := 1) rfl
      have s2 := (unhide HS).cell (i := 2) rfl
      have c0 := (unhide HG).cell (i := 0) rfl
      have f0 := (unhide HG).frozen 0
      have c1 := (unhide HG).cell (i := 1) rfl
      have f1 := (unhide HG).frozen 1
      have c2 := (unhide HG).cell (i := 2) rfl
      have f2 := (unhide HG).frozen 2
      obtain ⟨V9, eV9⟩ : ∃ V, V = ((Y0.setCell ⟨g2, 0, none⟩ (.int .i64 (q0))).setCell ⟨g2, 1, none⟩ (.int .i64 (b))).setCell ⟨g2, 2, none⟩ (.int .i64 (U)) := ⟨_, rfl⟩
      have HG9 : Hid (OwnV V9 g2 [.int .i64 (q0), .int .i64 (b), .int .i64 (U)]) := by show OwnV _ _ _; rw [eV9]; exact own3 (unhide HG) (q0) (b) (U)
      have hkp : Kept (fun b => b = g2) Y0 V9 := by rw [eV9]; exact kept3 _ _ (q0) (b) (U)
      have HC9 := hide ((unhide HC).kept hkp (fun b hb => by have hb : b = g2 := hb; omega))
      have HK9 := hide ((unhide HK).own hkp (fun b hb => by have hb : b = g2 := hb; omega))
      clear hkp
      go_wp2
      rw [← eV9]
      have k0 := (unhide HG9).cell (i := 0) rfl
      have k1 := (unhide HG9).cell (i := 1) rfl
      have k2 := (unhide HG9).cell (i := 2) rfl
      refine bodyPost_ret (v := vYardOp (q0) (b) (U)) (by simp [results, Try.results44, go_sem, vYardOp, k0, k1, k2]) rfl ⟨_, _, _, rfl, unhide HC9, unhide HK9⟩
    have d0 : (z == 0) = false := by simp [e0]
    by_cases e1 : z = 1
    case pos =>
      subst e1
      clear hz0 hz1
      go_upto_region 8 with (fail)
      have s0 := (unhide HS).cell (i := 2) rfl
      have sf := (unhide HS).frozen 2
      obtain ⟨Y0, eWn⟩ : ∃ Wq, Wq = W21.setCell ⟨gs, 2, none⟩ (.int .i64 (-1)) := ⟨_, rfl⟩
      have hkp := kept1 W21 gs 2 (.int .i64 (-1))
      rw [← eWn] at hkp
      replace HS : Hid (OwnV Y0 gs [.int .i64 3, .int .i64 b, .int .i64 (-1)]) := by show OwnV _ _ _; rw [eWn]; exact (unhide HS).set 2 _ (by simp)
      replace HG := hide ((unhide HG).kept hkp (fun e => by have e : g2 = gs := e; omega))
      replace HC := hide ((unhide HC).kept hkp (fun b hb => by have hb : b = gs := hb; omega))
      replace HK := hide ((unhide HK).own hkp (fun b hb => by have hb : b = gs := hb; omega))
      go_upto_region 11 with (fail)
      rw [← eWn]
      clear eWn hkp s0 sf
      have s0 := (unhide HS).cell (i := 0) rfl
      have s1 := (unhide HS).cell (i := 1) rfl
      have s2 := (unhide HS).cell (i := 2) rfl
      have c0 := (unhide HG).cell (i := 0) rfl
      have f0 := (unhide HG).frozen 0
      have c1 := (unhide HG).cell (i := 1) rfl
      have f1 := (unhide HG).frozen 1
      have c2 := (unhide HG).cell (i := 2) rfl
      have f2 := (unhide HG).frozen 2
      obtain ⟨V9, eV9⟩ : ∃ V, V = ((Y0.setCell ⟨g2, 0, none⟩ (.int .i64 (3))).setCell ⟨g2, 1, none⟩ (.int .i64 (b))).setCell ⟨g2, 2, none⟩ (.int .i64 (-1)) := ⟨_, rfl⟩
      have HG9 : Hid (OwnV V9 g2 [.int .i64 (3), .int .i64 (b), .int .i64 ((-1))]) := by show OwnV _ _ _; rw [eV9]; exact own3 (unhide HG) (3) (b) (-1)
      have hkp : Kept (fun b => b = g2) Y0 V9 := by rw [eV9]; exact kept3 _ _ (3) (b) (-1)
      have HC9 := hide ((unhide HC).kept hkp (fun b hb => by have hb : b = g2 := hb; omega))
      have HK9 := hide ((unhide HK).own hkp (fun b hb => by have hb : b = g2 := hb; omega))
      clear hkp
      go_wp2
      rw [← eV9]
      have k0 := (unhide HG9).cell (i := 0) rfl
      have k1 := (unhide HG9).cell (i := 1) rfl
      have k2 := (unhide HG9).cell (i := 2) rfl
      refine bodyPost_ret (v := vYardOp (3) (b) (-1)) (by simp [results, Try.results44, go_sem, vYardOp, k0, k1, k2]) rfl ⟨_, _, _, rfl, unhide HC9, unhide HK9⟩
    have d1 : (z == 1) = false := by simp [e1]
    by_cases e2 : z = 2
    case pos =>
      subst e2
      clear hz0 hz1
      go_upto_region 10 with (fail)
      have hA := Below.alloc1 W21 (.cells #[.int .i64 0, .int .i64 (-1), .int .i64 1000000, .int .i64 1000001] 3)
      have HI := hide (ownV_alloc W21 #[.int .i64 0, .int .i64 (-1), .int .i64 1000000, .int .i64 1000001] 3)
      have hne : ¬ W21.heap.size = cb := by have := (unhide HC).lt; omega
      replace HG := hide ((unhide HG).step hA)
      replace HS := hide ((unhide HS).step hA)
      replace HC := hide ((unhide HC).below hA)
      replace HK := hide ((unhide HK).trans (kept_of_below hA))
      clear hA
      go_wp2_with fail
      refine (l1PickInt_any cb n v _ 4 [0, -1, 1000000, 1000001] _ (unhide HC) hn (unhide HI) hne rfl (by omega) (by omega)).mono ?_
      rintro e W21p ⟨q0, rfl, hC, hK⟩
      clear HI hne
      replace HC := hide hC
      replace HG := hide ((unhide HG).kept hK (fun e => by have e : g2 = cb := e; omega))
      replace HS := hide ((unhide HS).kept hK (fun e => by have e : gs = cb := e; omega))
      replace HK := hide ((unhide HK).trans hK)
      clear hC hK
      have s0 := (unhide HS).cell (i := 1) rfl
      have sf := (unhide HS).frozen 1
      obtain ⟨Y0, eWn⟩ : ∃ Wq, Wq = W21p.setCell ⟨gs, 1, none⟩ (.int .i64 (q0)) := ⟨_, rfl⟩
      have hkp := kept1 W21p gs 1 (.int .i64 (q0))
      rw [← eWn] at hkp
      replace HS : Hid (OwnV Y0 gs [.int .i64 3, .int .i64 q0, .int .i64 U]) := by show OwnV _ _ _; rw [eWn]; exact (unhide HS).set 1 _ (by simp)
      replace HG := hide ((unhide HG).kept hkp (fun e => by have e : g2 = gs := e; omega))
      replace HC := hide ((unhide HC).kept hkp (fun b hb => by have hb : b = gs := hb; omega))
      replace HK := hide ((unhide HK).own hkp (fun b hb => by have hb : b = gs := hb; omega))
      go_upto_region 11 with (fail)
      rw [← eWn]
      clear eWn hkp s0 sf
      have s0 := (unhide HS).cell (i := 0) rfl
      have s1 := (unhide HS).cell (i := 1) rfl
      have s2 := (unhide HS).cell (i := 2) rfl
      have c0 := (unhide HG).cell (i := 0) rfl
      have f0 := (unhide HG).frozen 0
      have c1 := (unhide HG).cell (i := 1) rfl
      have f1 := (unhide HG).frozen 1
      have c2 := (unhide HG).cell (i := 2) rfl
      have f2 := (unhide HG).frozen 2
      obtain ⟨V9, eV9⟩ : ∃ V, V = ((Y0.setCell ⟨g2, 0, none⟩ (.int .i64 (3))).setCell ⟨g2, 1, none⟩ (.int .i64 (q0))).setCell ⟨g2, 2, none⟩ (.int .i64 (U)) := ⟨_, rfl⟩
      have HG9 : Hid (OwnV V9 g2 [.int .i64 (3), .int .i64 (q0), .int .i64 (U)]) := by show OwnV _ _ _; rw [eV9]; exact own3 (unhide HG) (3) (q0) (U)
      have hkp : Kept (fun b => b = g2) Y0 V9 := by rw [eV9]; exact kept3 _ _ (3) (q0) (U)
      have HC9 := hide ((unhide HC).kept hkp (fun b hb => by have hb : b = g2 := hb; omega))
      have HK9 := hide ((unhide HK).own hkp (fun b hb => by have hb : b = g2 := hb; omega))
      clear hkp
      go_wp2
      rw [← eV9]
      have k0 := (unhide HG9).cell (i := 0) rfl
      have k1 := (unhide HG9).cell (i := 1) rfl
      have k2 := (unhide HG9).cell (i := 2) rfl
      refine bodyPost_ret (v := vYardOp (3) (q0) (U)) (by simp [results, Try.results44, go_sem, vYardOp, k0, k1, k2]) rfl ⟨_, _, _, rfl, unhide HC9, unhide HK9⟩
    have d2 : (z == 2) = false := by simp [e2]
    clear e0 e1 e2
    go_upto_region 11 with (fail)
    clear d0 d1 d2
    have s0 := (unhide HS).cell (i := 0) rfl
    have s1 := (unhide HS).cell (i := 1) rfl
    have s2 := (unhide HS).cell (i := 2) rfl
    have c0 := (unhide HG).cell (i := 0) rfl
    have f0 := (unhide HG).frozen 0
    have c1 := (unhide HG).cell (i := 1) rfl
    have f1 := (unhide HG).frozen 1
    have c2 := (unhide HG).cell (i := 2) rfl
    have f2 := (unhide HG).frozen 2
    obtain ⟨V9, eV9⟩ : ∃ V, V = ((W21.setCell ⟨g2, 0, none⟩ (.int .i64 (3))).setCell ⟨g2, 1, none⟩ (.int .i64 (b))).setCell ⟨g2, 2, none⟩ (.int .i64 (U)) := ⟨_, rfl⟩
    have HG9 : Hid (OwnV V9 g2 [.int .i64 (3), .int .i64 (b), .int .i64 (U)]) := by show OwnV _ _ _; rw [eV9]; exact own3 (unhide HG) (3) (b) (U)
    have hkp : Kept (fun b => b = g2) W21 V9 := by rw [eV9]; exact kept3 _ _ (3) (b) (U)
    have HC9 := hide ((unhide HC).kept hkp (fun b hb => by have hb : b = g2 := hb; omega))
    have HK9 := hide ((unhide HK).own hkp (fun b hb => by have hb : b = g2 := hb; omega))
    clear hkp
    go_wp2
    rw [← eV9]
    have k0 := (unhide HG9).cell (i := 0) rfl
    have k1 := (unhide HG9).cell (i := 1) rfl
    have k2 := (unhide HG9).cell (i := 2) rfl
    refine bodyPost_ret (v := vYardOp (3) (b) (U)) (by simp [results, Try.results44, go_sem, vYardOp, k0, k1, k2]) rfl ⟨_, _, _, rfl, unhide HC9, unhide HK9⟩
  have d3 : (X == 3) = false := by simp [e3]
  go_upto_region 4 with (fail)
  clear s0 d3
  go_wp2_with fail
  refine (unhide QB _ (unhide HC) 40 (by omega) (by omega)).mono ?_
  rintro e W21 ⟨z, rfl, hz0, hz1, hC, hK⟩
  replace HC := hide hC
  replace HG := hide ((unhide HG).kept hK (fun e => by have e : g2 = cb := e; omega))
  replace HS := hide ((unhide HS).kept hK (fun e => by have e : gs = cb := e; omega))
  replace HK := hide ((unhide HK).trans hK)
  clear hC hK
  by_cases e0 : z = 0
  case pos =>
    subst e0
    clear hz0 hz1
    go_upto_region 6 with (fail)
    have hA := Below.alloc1 W21 (.cells #[.int .i64 0, .int .i64 4] 3)
    have HI := hide (ownV_alloc W21 #[.int .i64 0, .int .i64 4] 3)
    have hne : ¬ W21.heap.size = cb := by have := (unhide HC).lt; omega
    replace HG := hide ((unhide HG).step hA)
    replace HS := hide ((unhide HS).step hA)
    replace HC := hide ((unhide HC).below hA)
    replace HK := hide ((unhide HK).trans (kept_of_below hA))
    clear hA
    go_wp2_with fail
    refine (l1PickInt_any cb n v _ 2 [0, 4] _ (unhide HC) hn (unhide HI) hne rfl (by omega) (by omega)).mono ?_
    rintro e W21p ⟨q0, rfl, hC, hK⟩
    clear HI hne
    replace HC := hide hC
    replace HG := hide ((unhide HG).kept hK (fun e => by have e : g2 = cb := e; omega))
    replace HS := hide ((unhide HS).kept hK (fun e => by have e : gs = cb := e; omega))
    replace HK := hide ((unhide HK).trans hK)
    clear hC hK
    have s0 := (unhide HS).cell (i := 0) rfl
    have sf := (unhide HS).frozen 0
    obtain ⟨Y0, eWn⟩ : ∃ Wq, Wq = W21p.setCell ⟨gs, 0, none⟩ (.int .i64 (q0)) := ⟨_, rfl⟩
    have hkp := kept1 W21p gs 0 (.int .i64 (q0))
    rw [← eWn] at hkp
    replace HS : Hid (OwnV Y0 gs [.int .i64 q0, .int .i64 Y, .int .i64 U]) := by show OwnV _ _ _; rw [eWn]; exact (unhide HS).set 0 _ (by simp)
    replace HG := hide ((unhide HG).kept hkp (fun e => by have e : g2 = gs := e; omega))
    replace HC := hide ((unhide HC).kept hkp (fun b hb => by have hb : b = gs := hb; omega))
    replace HK := hide ((unhide HK).own hkp (fun b hb => by have hb : b = gs := hb; omega))
    go_upto_region 11 with (fail)
    rw [← eWn]
    clear eWn hkp s0 sf
    have s0 := (unhide HS).cell (i := 0) rfl
    have s1 := (unhide HS).cell (i := 1) rfl
    have s2 := (unhide HS).cell (i := 2) rfl
    have c0 := (unhide HG).cell (i := 0) rfl
    have f0 := (unhide HG).frozen 0
    have c1 := (unhide HG).cell (i := 1) rfl
    have f1 := (unhide HG).frozen 1
    have c2 := (unhide HG).cell (i := 2) rfl
    have f2 := (unhide HG).frozen 2
    obtain ⟨V9, eV9⟩ : ∃ V, V = ((Y0.setCell ⟨g2, 0, none⟩ (.int .i64 (q0))).setCell ⟨g2, 1, none⟩ (.int .i64 (Y))).setCell ⟨g2, 2, none⟩ (.int .i64 (U)) := ⟨_, rfl⟩
    have HG9 : Hid (OwnV V9 g2 [.int .i64 (q0), .int .i64 (Y), .int .i64 (U)]) := by show OwnV _ _ _; rw [eV9]; exact own3 (unhide HG) (q0) (Y) (U)
    have hkp : Kept (fun b => b = g2) Y0 V9 := by rw [eV9]; exact kept3 _ _ (q0) (Y) (U)
    have HC9 := hide ((unhide HC).kept hkp (fun b hb => by have hb : b = g2 := hb; omega))
    have HK9 := hide ((unhide HK).own hkp (fun b hb => by have hb : b = g2 := hb; omega))
    clear hkp
    go_wp2
    rw [← eV9]
    have k0 := (unhide HG9).cell (i := 0) rfl
    have k1 := (unhide HG9).cell (i := 1) rfl
    have k2 := (unhide HG9).cell (i := 2) rfl
    refine bodyPost_ret (v := vYardOp (q0) (Y) (U)) (by simp [results, Try.results44, go_sem, vYardOp, k0, k1, k2]) rfl ⟨_, _, _, rfl, unhide HC9, unhide HK9⟩
  have d0 : (z == 0) = false := by simp [e0]
  by_cases e1 : z = 1
  case pos =>
    subst e1
    clear hz0 hz1
    go_upto_region 8 with (fail)
    have s0 := (unhide HS).cell (i := 2) rfl
    have sf := (unhide HS).frozen 2
    obtain ⟨Y0, eWn⟩ : ∃ Wq, Wq = W21.setCell ⟨gs, 2, none⟩ (.int .i64 (-1)) := ⟨_, rfl⟩
    have hkp := kept1 W21 gs 2 (.int .i64 (-1))
    rw [← eWn] at hkp
    replace HS : Hid (OwnV Y0 gs [.int .i64 X, .int .i64 Y, .int .i64 (-1)]) := by show OwnV _ _ _; rw [eWn]; exact (unhide HS).set 2 _ (by simp)
    replace HG := hide ((unhide HG).kept hkp (fun e => by have e : g2 = gs := e; omega))
    replace HC := hide ((unhide HC).kept hkp (fun b hb => by have hb : b = gs := hb; omega))
    replace HK := hide ((unhide HK).own hkp (fun b hb => by have hb : b = gs := hb; omega))
    go_upto_region 11 with (fail)
    rw [← eWn]
    clear eWn hkp s0 sf
    have s0 := (unhide HS).cell (i := 0) rfl
    have s1 := (unhide HS).cell (i := 1) rfl
    have s2 := (unhide HS).cell (i := 2) rfl
    have c0 := (unhide HG).cell (i := 0) rfl
    have f0 := (unhide HG).frozen 0
    have c1 := (unhide HG).cell (i := 1) rfl
    have f1 := (unhide HG).frozen 1
    have c2 := (unhide HG).cell (i := 2) rfl
    have f2 := (unhide HG).frozen 2
    obtain ⟨V9, eV9⟩ : ∃ V, V = ((Y0.setCell ⟨g2, 0, none⟩ (.int .i64 (X))).setCell ⟨g2, 1, none⟩ (.int .i64 (Y))).setCell ⟨g2, 2, none⟩ (.int .i64 (-1)) := ⟨_, rfl⟩
    have HG9 : Hid (OwnV V9 g2 [.int .i64 (X), .int .i64 (Y), .int .i64 ((-1))]) := by show OwnV _ _ _; rw [eV9]; exact own3 (unhide HG) (X) (Y) (-1)
    have hkp : Kept (fun b => b = g2) Y0 V9 := by rw [eV9]; exact kept3 _ _ (X) (Y) (-1)
    have HC9 := hide ((unhide HC).kept hkp (fun b hb => by have hb : b = g2 := hb; omega))
    have HK9 := hide ((unhide HK).own hkp (fun b hb => by have hb : b = g2 := hb; omega))
    clear hkp
    go_wp2
    rw [← eV9]
    have k0 := (unhide HG9).cell (i := 0) rfl
    have k1 := (unhide HG9).cell (i := 1) rfl
    have k2 := (unhide HG9).cell (i := 2) rfl
    refine bodyPost_ret (v := vYardOp (X) (Y) (-1)) (by simp [results, Try.results44, go_sem, vYardOp, k0, k1, k2]) rfl ⟨_, _, _, rfl, unhide HC9, unhide HK9⟩
  have d1 : (z == 1) = false := by simp [e1]
  by_cases e2 : z = 2
  case pos =>
    subst e2
    clear hz0 hz1
    go_upto_region 10 with (fail)
    have hA := Below.alloc1 W21 (.cells #[.int .i64 0, .int .i64 (-1), .int .i64 1000000, .int .i64 1000001] 3)
    have HI := hide (ownV_alloc W21 #[.int .i64 0, .int .i64 (-1), .int .i64 1000000, .int .i64 1000001] 3)
    have hne : ¬ W21.heap.size = cb := by have := (unhide HC).lt; omega
    replace HG := hide ((unhide HG).step hA)
    replace HS := hide ((unhide HS).step hA)
    replace HC := hide ((unhide HC).below hA)
    replace HK := hide ((unhide HK).trans (kept_of_below hA))
    clear hA
    go_wp2_with fail
    refine (l1PickInt_any cb n v _ 4 [0, -1, 1000000, 1000001] _ (unhide HC) hn (unhide HI) hne rfl (by omega) (by omega)).mono ?_
    rintro e W21p ⟨q0, rfl, hC, hK⟩
    clear HI hne
    replace HC := hide hC
    replace HG := hide ((unhide HG).kept hK (fun e => by have e : g2 = cb := e; omega))
    replace HS := hide ((unhide HS).kept hK (fun e => by have e : gs = cb := e; omega))
    replace HK := hide ((unhide HK).trans hK)
    clear hC hK
    have s0 := (unhide HS).cell (i := 1) rfl
    have sf := (unhide HS).frozen 1
    obtain ⟨Y0, eWn⟩ : ∃ Wq, Wq = W21p.setCell ⟨gs, 1, none⟩ (.int .i64 (q0)) := ⟨_, rfl⟩
    have hkp := kept1 W21p gs 1 (.int .i64 (q0))
    rw [← eWn] at hkp
    replace HS : Hid (OwnV Y0 gs [.int .i64 X, .int .i64 q0, .int .i64 U]) := by show OwnV _ _ _; rw [eWn]; exact (unhide HS).set 1 _ (by simp)
    replace HG := hide ((unhide HG).kept hkp (fun e => by have e : g2 = gs := e; omega))
    replace HC := hide ((unhide HC).kept hkp (fun b hb => by have hb : b = gs := hb; omega))
    replace HK := hide ((unhide HK).own hkp (fun b hb => by have hb : b = gs := hb; omega))
    go_upto_region 11 with (fail)
    rw [← eWn]
    clear eWn hkp s0 sf
    have s0 := (unhide HS).cell (i := 0) rfl
    have s1 := (unhide HS).cell (i := 1) rfl
    have s2 := (unhide HS).cell (i := 2) rfl
    have c0 := (unhide HG).cell (i := 0) rfl
    have f0 := (unhide HG).frozen 0
    have c1 := (unhide HG).cell (i := 1) rfl
    have f1 := (unhide HG).frozen 1
    have c2 := (unhide HG).cell (i := 2) rfl
    have f2 := (unhide HG).frozen 2
    obtain ⟨V9, eV9⟩ : ∃ V, V = ((Y0.setCell ⟨g2, 0, none⟩ (.int .i64 (X))).setCell ⟨g2, 1, none⟩ (.int .i64 (q0))).setCell ⟨g2, 2, none⟩ (.int .i64 (U)) := ⟨_, rfl⟩
    have HG9 : Hid (OwnV V9 g2 [.int .i64 (X), .int .i64 (q0), .int .i64 (U)]) := by show OwnV _ _ _; rw [eV9]; exact own3 (unhide HG) (X) (q0) (U)
    have hkp : Kept (fun b => b = g2) Y0 V9 := by rw [eV9]; exact kept3 _ _ (X) (q0) (U)
    have HC9 := hide ((unhide HC).kept hkp (fun b hb => by have hb : b = g2 := hb; omega))
    have HK9 := hide ((unhide HK).own hkp (fun b hb => by have hb : b = g2 := hb; omega))
    clear hkp
    go_wp2
    rw [← eV9]
    have k0 := (unhide HG9).cell (i := 0) rfl
    have k1 := (unhide HG9).cell (i := 1) rfl
    have k2 := (unhide HG9).cell (i := 2) rfl
    refine bodyPost_ret (v := vYardOp (X) (q0) (U)) (by simp [results, Try.results44, go_sem, vYardOp, k0, k1, k2]) rfl ⟨_, _, _, rfl, unhide HC9, unhide HK9⟩
  have d2 : (z == 2) = false := by simp [e2]
  clear e0 e1 e2
  go_upto_region 11 with (fail)
  clear d0 d1 d2
  have s0 := (unhide HS).cell (i := 0) rfl
  have s1 := (unhide HS).cell (i := 1) rfl
  have s2 := (unhide HS).cell (i := 2) rfl
  have c0 := (unhide HG).cell (i := 0) rfl
  have f0 := (unhide HG).frozen 0
  have c1 := (unhide HG).cell (i := 1) rfl
  have f1 := (unhide HG).frozen 1
  have c2 := (unhide HG).cell (i := 2) rfl
  have f2 := (unhide HG).frozen 2
  obtain ⟨V9, eV9⟩ : ∃ V, V = ((W21.setCell ⟨g2, 0, none⟩ (.int .i64 (X))).setCell ⟨g2, 1, none⟩ (.int .i64 (Y))).setCell ⟨g2, 2, none⟩ (.int .i64 (U)) := ⟨_, rfl⟩
  have HG9 : Hid (OwnV V9 g2 [.int .i64 (X), .int .i64 (Y), .int .i64 (U)]) := by show OwnV _ _ _; rw [eV9]; exact own3 (unhide HG) (X) (Y) (U)
  have hkp : Kept (fun b => b = g2) W21 V9 := by rw [eV9]; exact kept3 _ _ (X) (Y) (U)
  have HC9 := hide ((unhide HC).kept hkp (fun b hb => by have hb : b = g2 := hb; omega))
  have HK9 := hide ((unhide HK).own hkp (fun b hb => by have hb : b = g2 := hb; omega))
  clear hkp
  go_wp2
  rw [← eV9]
  have k0 := (unhide HG9).cell (i := 0) rfl
  have k1 := (unhide HG9).cell (i := 1) rfl
  have k2 := (unhide HG9).cell (i := 2) rfl
  refine bodyPost_ret (v := vYardOp (X) (Y) (U)) (by simp [results, Try.results44, go_sem, vYardOp, k0, k1, k2]) rfl ⟨_, _, _, rfl, unhide HC9, unhide HK9⟩

end Go.Proofs.Ytjllilmiloippaa

namespace Go.Proofs.Ytjllilmiloippaa
open Go.RowKit

theorem bytes_upD {B B' : Nat} {w : World} {v : Value} {n : Nat} (h : BytesIn B w v n) (hB : B ≤ B') : BytesIn B' w v n := by
  obtain ⟨ao, cap, e, h1, h2, h3⟩ := h
  refine ⟨ao, cap, e, h1, h2, fun i hi => ?_⟩
  obtain ⟨b, o, x, e1, hlt, hc⟩ := h3 i hi
  exact ⟨b, o, x, e1, by omega, hc⟩
theorem rowB_blk {α : Type} [Inhabited α] {T : TypeId} {n : Nat} {enc : α → Nat → Value} {B : Nat} {w : World} {ao : Option Addr} {m cap : Nat} {L : List α} (h : RowB T n enc B w ao m cap L) (hn : 0 < n) : ∀ b, ao = some ⟨b, 0, none⟩ → B ≤ b := fun b e => by
  rcases h.parts hn with ⟨e2, _⟩ | ⟨g, e2, hg, _⟩
  · rw [e] at e2; cases e2
  · rw [e] at e2; simp only [Option.some.injEq, Addr.mk.injEq, and_true] at e2; omega
theorem tyYardOp : RecTy 27 34 3 eYardOp := recTy_mk Try.underlying27 Try.infoYardOp rfl (by decide) (by decide) (fun x j hj => by
  have : j = 0 ∨ j = 1 ∨ j = 2 := by omega
  rcases this with e | e | e <;> subst e <;> rfl)
/-- A yard that is right and ops, that can be read. -/
def DyA (w : World) (e : Ending) (w' : World) : Prop :=
  ∃ H g k R bo q oc M, e = .returned (.tuple #[yardV H (.slice (some ⟨g, 0, none⟩) k k), .slice bo q oc]) ∧ RowsIn w' (.slice (some ⟨g, 0, none⟩) k k) R ∧ YOk H R ∧ RYardOp w' (.slice bo q oc) M ∧ M.length ≤ 24 ∧ Below w.heap.size w w'
theorem dyA_of {w w' : World} (H : Int) (g k : Nat) (R : List (List Int)) (bo : Option Addr) (q oc : Nat) (M : List YardOpT) (h1 : RowsIn w' (.slice (some ⟨g, 0, none⟩) k k) R) (h2 : YOk H R) (h3 : RYardOp w' (.slice bo q oc) M) (h4 : M.length ≤ 24) (h5 : Below w.heap.size w w') :
    DyA w (.returned (.tuple #[.agg #[.int .i64 H, .slice (some ⟨g, 0, none⟩) k k], .slice bo q oc])) w' := ⟨H, g, k, R, bo, q, oc, M, rfl, h1, h2, h3, h4, h5⟩

set_option maxRecDepth 100000 in
set_option maxHeartbeats 16000000 in
theorem DrawYard_any (v : Value) (n : Nat) (w : World) (h : BytesIn w.heap.size w v n) (hn : n ≤ 1048576) :
    Calls Try.prog 12 #[v] w fun e w' => DyA w e w' := by
  have hA := Below.alloc1 w (.cells #[.int .i64 0, .slice none 0 0] 26)
  have HR := hide (ownV_alloc w #[.int .i64 0, .slice none 0 0] 26)
  have HBY := hide (h.below hA (by simp))
  have HW := hide hA
  clear h
  go_enter Try.func12, Try.ntmps12
  go_upto_region 1 with (fail)
  obtain ⟨gr, egr⟩ : ∃ z, z = w.heap.size := ⟨_, rfl⟩
  obtain ⟨W0, eW0⟩ : ∃ z, z = w.alloc (.cells #[.int .i64 0, .slice none 0 0] 26) := ⟨_, rfl⟩
  rw [← eW0] at HR HW HBY hA ⊢
  rw [← egr] at HR ⊢
  have hgr : w.heap.size ≤ gr := by omega
  have hrl := (unhide HR).lt
  have HQ := hide (l1New_any v n W0 (bytes_upD (unhide HBY) hA.size) hn)
  clear hA egr eW0
  go_wp2_with fail
  refine (unhide HQ).mono ?_
  rintro e w1 ⟨rfl, hC, hb, hs1⟩
  replace HR := hide ((unhide HR).step hb)
  replace HW := hide (Below.step (unhide HW) hb)
  have HC := hide hC
  obtain ⟨cb, ecb⟩ : ∃ z, z = W0.heap.size := ⟨_, rfl⟩
  rw [← ecb] at HC ⊢
  have hrc : gr < cb := by omega
  have hcw : w.heap.size ≤ cb := by omega
  clear hC hb hs1 HQ HBY ecb hrl
  have HQ := hide (l1BelowV_any cb n v 5 w1 (unhide HC) hn (by omega) (by omega))
  go_wp2_with fail
  refine (unhide HQ).mono ?_
  rintro e w2 ⟨x, rfl, hx0, hx1, hC, hk⟩
  replace HW := hide ((unhide HW).trans (hk.below (unhide HW).size (fun b e => by omega)))
  replace HR := hide ((unhide HR).kept hk (fun e => by omega))
  replace HC := hide hC
  clear hC hk HQ
  obtain ⟨k0, rfl⟩ : ∃ z : Nat, x = (z : Int) := ⟨x.toNat, by omega⟩
  obtain ⟨k, ek⟩ : ∃ z : Nat, z = 1 + k0 := ⟨_, rfl⟩
  have hkw : IntKind.i64.wrap (1 + (k0 : Int)) = 1 + (k0 : Int) := by rw [IntKind.wrap_i64]; omega
  have hk1 : 1 ≤ k ∧ k ≤ 5 := by omega
  have HQ := hide (l1BelowV_any cb n v 16 w2 (unhide HC) hn (by omega) (by omega))
  go_wp2_with fail
  refine (unhide HQ).mono ?_
  rintro e w3 ⟨y, rfl, hy0, hy1, hC, hk⟩
  replace HW := hide ((unhide HW).trans (hk.below (unhide HW).size (fun b e => by omega)))
  replace HR := hide ((unhide HR).kept hk (fun e => by omega))
  replace HC := hide hC
  have hc2 := (unhide HC).lt
  clear hC hk HQ
  obtain ⟨m, rfl⟩ : ∃ z : Nat, y = (z : Int) := ⟨y.toNat, by omega⟩
  have HQ := hide (l18Draw_any cb n v k m w3 (unhide HC) hn (by omega) (by omega) (by omega))
  unfold yardV at HQ
  go_wp2_with fail
  rw [show (1 + (k0 : Int)) = (k : Int) by omega]
  refine (unhide HQ).mono ?_
  rintro e w4 ⟨H, g, B, A, C, R, rfl, HY, HO, hRk, -, hgw, hB3, hC, hk⟩
  replace HW := hide ((unhide HW).trans (hk.below (unhide HW).size (fun b e => by omega)))
  replace HR := hide ((unhide HR).kept hk (fun e => by omega))
  replace HC := hide hC
  clear hC hk HQ hkw
  have HEK := hide ek
  clear ek
  have hgB : g < B := (unhide HY).gB
  have HRR : Hid (∀ (P : Nat → Prop) W', Kept P w4 W' → (∀ b, w3.heap.size ≤ b → ¬ P b) → RowsIn W' (.slice (some ⟨g, 0, none⟩) k k) R) := fun P W' hk hP => by
    have h9 := ((unhide HY).kept hk (hP g hgw) (fun b h1 _ => hP b (by omega))).rows (c := k) (by omega) (by unfold maxLen; omega)
    rw [hRk] at h9
    exact h9
  have hw34 : w3.heap.size ≤ w4.heap.size := by have := (unhide HY).top.lt; omega
  have HKX := hide (Kept.refl (fun b => b = cb) w4)
  clear HY hRk hgB
  have hA := Below.alloc1 w4 (.cells #[.int .i64 H, .slice (some ⟨g, 0, none⟩) k k] 26)
  have HBX := hide (ownV_alloc w4 #[.int .i64 H, .slice (some ⟨g, 0, none⟩) k k] 26)
  replace HW := hide (Below.step (unhide HW) hA)
  replace HC := hide ((unhide HC).below hA)
  replace HR := hide ((unhide HR).step hA)
  replace HKX := hide ((unhide HKX).trans (kept_of_below hA))
  clear hA
  go_upto_region 3 with (fail)
  obtain ⟨gy, egy⟩ : ∃ z, z = w4.heap.size := ⟨_, rfl⟩
  obtain ⟨w5, ew5⟩ : ∃ z, z = w4.alloc (.cells #[.int .i64 H, .slice (some ⟨g, 0, none⟩) k k] 26) := ⟨_, rfl⟩
  rw [← ew5] at HR HC HW HKX HBX ⊢
  rw [← egy] at HBX ⊢
  have hgy : w3.heap.size ≤ gy := by omega
  have hgy4 : w4.heap.size ≤ gy := by omega
  have hcy : cb < gy := by omega
  clear egy ew5
  obtain ⟨U1, eU1⟩ : ∃ z, z = w5.heap.size := ⟨_, rfl⟩
  have hU1 : U1 ≤ w5.heap.size := by omega
  have hgU : gy < U1 := by rw [eU1]; exact (unhide HBX).lt
  clear eU1
  have hA := Below.alloc1 w5 (.cells #[] 34)
  have HM := hide (rowB_new 34 3 eYardOp w5 U1 hU1)
  obtain ⟨V1, eV⟩ : ∃ V, V = w5.alloc (.cells #[] 34) := ⟨_, rfl⟩
  rw [← eV] at HM hA
  obtain ⟨bo, ebo⟩ : ∃ r : Option Addr, r = some ⟨w5.heap.size, 0, none⟩ := ⟨_, rfl⟩
  rw [← ebo] at HM
  replace HW := hide (Below.step (unhide HW) hA)
  replace HC := hide ((unhide HC).below hA)
  replace HR := hide ((unhide HR).step hA)
  replace HKX := hide ((unhide HKX).trans (kept_of_below hA))
  replace HBX := hide ((unhide HBX).step hA)
  have hV1 := hA.size
  have HQ := hide (l1BelowV_any cb n v 25 V1 (unhide HC) hn (by omega) (by omega))
  go_wp2_with fail
  rw [← eV, ← ebo]
  clear eV ebo hA
  refine (unhide HQ).mono ?_
  rintro e w6 ⟨z, rfl, hz0, hz1, hC, hk⟩
  replace HW := hide ((unhide HW).trans (hk.below (unhide HW).size (fun b e => by omega)))
  replace HR := hide ((unhide HR).kept hk (fun e => by omega))
  replace HKX := hide ((unhide HKX).trans hk)
  replace HBX := hide ((unhide HBX).kept hk (fun e => by omega))
  replace HC := hide hC
  replace HM := hide ((unhide HM).kept hk (fun g _ hg _ e => by have e : g = cb := e; omega))
  have hU6 : U1 ≤ w6.heap.size := by have := hk.size; omega
  clear hC hk HQ hV1 hU1
  obtain ⟨N, rfl⟩ : ∃ N : Nat, z = (N : Int) := ⟨z.toNat, by omega⟩
  have QM0 := hide fun W (hW : Cur W cb v n) => l18DrawOp_any cb n v W hW hn
  go_wp2
  go_loopg [6, 7] N (fun gm ov iv wr => ∃ (i q d : Nat) (bo : Option Addr) (M : List YardOpT), i ≤ N ∧ gm = i ∧ iv = .int .i64 (i : Int) ∧ ov = .slice bo q d ∧ q + i = N ∧ U1 ≤ wr.heap.size ∧ Hid (RowB 34 3 eYardOp U1 wr bo q d M) ∧ Hid (OwnV wr gr [.int .i64 0, .slice none 0 0]) ∧ Hid (OwnV wr gy [.int .i64 H, .slice (some ⟨g, 0, none⟩) k k]) ∧ Hid (Cur wr cb v n) ∧ Hid (Below w.heap.size w wr) ∧ Hid (Kept (fun b => b = cb) w4 wr))
  case atStart => exact ⟨N, 0, 0, bo, [], Nat.le_refl _, rfl, rfl, rfl, by omega, hU6, HM, HR, HBX, HC, HW, HKX⟩
  case round =>
    clear HM HR HC HW hU6 HBX HKX
    obtain ⟨i, q, d, bo, M, hi, hgi, rfl, rfl, hki, hU2, HM, HR, HBX, HC, HW, HKX⟩ := hrel
    have HGI := hide hgi
    clear hgi
    by_cases hi0 : 0 < i
    · have hii : (0 : Int) < (i : Int) := by omega
      go_wp2_with fail
      refine (unhide QM0 _ (unhide HC)).mono ?_
      rintro e U3 ⟨a, b, c, rfl, hC, hk⟩
      replace HW := hide ((unhide HW).trans (hk.below (unhide HW).size (fun b e => by omega)))
      replace HR := hide ((unhide HR).kept hk (fun e => by omega))
      replace HKX := hide ((unhide HKX).trans hk)
      replace HBX := hide ((unhide HBX).kept hk (fun e => by omega))
      replace HC := hide hC
      replace HM := hide ((unhide HM).kept hk (fun g _ hg _ e => by have e : g = cb := e; omega))
      have hU3 : U1 ≤ U3.heap.size := by have := hk.size; omega
      clear hC hk
      have hA := Below.alloc1 U3 (.cells #[.int .i64 a, .int .i64 b, .int .i64 c] 34)
      have HG := hide (ownV_alloc U3 #[.int .i64 a, .int .i64 b, .int .i64 c] 34)
      replace HW := hide (Below.step (unhide HW) hA)
      replace HC := hide ((unhide HC).below hA)
      replace HR := hide ((unhide HR).step hA)
      replace HKX := hide ((unhide HKX).trans (kept_of_below hA))
      replace HBX := hide ((unhide HBX).step hA)
      replace HM := hide ((unhide HM).below hA)
      have hU4 : U1 ≤ (U3.alloc (.cells #[.int .i64 a, .int .i64 b, .int .i64 c] 34)).heap.size := Nat.le_trans hU3 hA.size
      clear hA
      obtain ⟨j, rfl⟩ : ∃ j, i = j + 1 := ⟨i - 1, by omega⟩
      have q5 : IntKind.i64.wrap (((j + 1 : Nat) : Int) - 1) = (j : Int) := by rw [IntKind.wrap_i64]; omega
      have q6 : ((j + 1 : Nat) : Int) - 1 = (j : Int) := by omega
      unfold vYardOp
      go_wp2_with (at_builtin; go_must (refine wpList_appRow tyYardOp _ rfl _ _ rfl U1 bo q d M rfl (unhide HM) hU4 (by omega) U3.heap.size (a, b, c) 1 rfl (unhide HG) ?_); intro g' cap' w7 hL hK7 hBg hat; have HM2 := hide hL; have HKK := hide hK7; clear hL hK7 hat)
      go_roundg j
      case measure => have := unhide HGI; omega
      case rel =>
        have hbk := rowB_blk (unhide HM) (by decide)
        have hwb := (unhide HW).size
        exact ⟨j, q + 1, cap', _, _, by omega, rfl, by go_num, rfl, by omega, Nat.le_trans hU4 (unhide HKK).size, HM2, (unhide HR).kept (unhide HKK) (fun hb => by have := hbk _ hb; omega), (unhide HBX).kept (unhide HKK) (fun hb => by have := hbk _ hb; omega), (unhide HC).kept (unhide HKK) (fun b hb => by have := hbk b hb; omega), (unhide HW).trans ((unhide HKK).below hwb fun b hb => by have := hbk b hb; omega), (unhide HKX).own (unhide HKK) (fun b hb => by have := hbk b hb; omega)⟩
    · obtain rfl : i = 0 := by omega
      have hMl := (unhide HM).len (by decide)
      have b0 := (unhide HBX).cell (i := 0) rfl
      have b1 := (unhide HBX).cell (i := 1) rfl
      have r0 := (unhide HR).cell (i := 0) rfl
      have r1 := (unhide HR).cell (i := 1) rfl
      have rf0 := (unhide HR).frozen 0
      have rf1 := (unhide HR).frozen 1
      have hKS := ((Kept.refl (fun b => b = gr) wr).setCell (p := ⟨gr, 0, none⟩) rfl (.int .i64 H)).setCell (p := ⟨gr, 1, none⟩) rfl (.slice (some ⟨g, 0, none⟩) k k)
      obtain ⟨V9, eV9⟩ : ∃ V, V = (wr.setCell ⟨gr, 0, none⟩ (.int .i64 H)).setCell ⟨gr, 1, none⟩ (.slice (some ⟨g, 0, none⟩) k k) := ⟨_, rfl⟩
      have HN : Hid (OwnV V9 gr [.int .i64 H, .slice (some ⟨g, 0, none⟩) k k]) := by show OwnV _ _ _; rw [eV9]; exact ((unhide HR).set 0 (.int .i64 H) (by simp)).set 1 (.slice (some ⟨g, 0, none⟩) k k) (by simp)
      rw [← eV9] at hKS
      have HRF := hide (unhide HRR (fun b => b = cb ∨ b = gr) _ (((unhide HKX).mono (fun b _ e => Or.inl e)).trans (hKS.mono (fun b _ e => Or.inr e))) (fun b hb e => by omega))
      have HWF := hide ((unhide HW).trans (hKS.below (unhide HW).size (fun b e => by omega)))
      replace HM := hide ((unhide HM).kept hKS (fun g _ hg _ e => by have e : g = gr := e; omega))
      clear hKS
      go_wp2
      rw [← eV9]
      have k0 := (unhide HN).cell (i := 0) rfl
      have k1 := (unhide HN).cell (i := 1) rfl
      refine bodyPost_ret (v := .tuple #[.agg #[.int .i64 H, .slice (some ⟨g, 0, none⟩) k k], .slice bo q d]) (by simp [results, Try.results12, go_sem, k0, k1]) rfl (dyA_of _ _ _ _ _ _ _ _ (unhide HRF) (unhide HO) ((unhide HM).recs (by decide)) (by omega) (unhide HWF))

end Go.Proofs.Ytjllilmiloippaa

namespace Go.Proofs.Ytjllilmiloippaa
open Go.RowKit

set_option maxHeartbeats 400000 in
theorem sameInts_any (v v' : Value) (xs : List Int) (w : World) (h : IntsIn w v xs) (h' : IntsIn w v' xs) :
    Calls Try.prog 17 #[v, v'] w fun e w' => e = .returned (.bool true) ∧ Below w.heap.size w w' := by
  obtain ⟨ao, cap, rfl, hl, hm, hc⟩ := h
  obtain ⟨ao', cap', rfl, _, _, hc'⟩ := h'
  unfold maxLen at hm
  have HC := hide hc
  have HC' := hide hc'
  clear hc hc'
  go_enter Try.func17, Try.ntmps17
  go_wp2
  go_loopg [5] xs.length (fun g i wr => ∃ q, wr = w.drewN q ∧ ∃ k : Nat, k ≤ xs.length ∧ g = xs.length - k ∧ i = .int .i64 k)
  case atStart => exact ⟨0, rfl, 0, Nat.zero_le _, rfl, rfl⟩
  case round =>
    obtain ⟨q, rfl, k, hk, rfl, rfl⟩ := hrel
    by_cases hkn : k < xs.length
    · obtain ⟨b, o, rfl, hcell⟩ := unhide HC k hkn
      obtain ⟨b', o', rfl, hcell'⟩ := unhide HC' k hkn
      generalize xs.getD k 0 = x at *
      go_wp2
      go_quiet (fail)
      go_wp2
      go_roundg (xs.length - (k + 1))
      case measure => omega
      case rel => exact ⟨_, rfl, k + 1, by omega, rfl, by go_num⟩
    · go_wp2
      go_ret
      exact ⟨rfl, below_drewN (Below.refl _ _) q⟩

/-- Rows that are there in all worlds that have turned block gn alone. -/
def Stays (gn : Nat) (w : World) (v : Value) (R : List (List Int)) : Prop := ∀ W', Kept (fun b => b = gn) w W' → RowsIn W' v R
theorem Stays.kept {gn : Nat} {w w' : World} {v : Value} {R : List (List Int)} (h : Stays gn w v R) (k : Kept (fun b => b = gn) w w') : Stays gn w' v R := fun W' k' => h W' (k.trans k')
theorem Stays.here {gn : Nat} {w : World} {v : Value} {R : List (List Int)} (h : Stays gn w v R) : RowsIn w v R := h w (Kept.refl _ _)
theorem stays_old {gn : Nat} {w w' : World} {v : Value} {R : List (List Int)} (h : RowsIn w v R) (hb : Below w.heap.size w w') (hg : w.heap.size ≤ gn) : Stays gn w' v R := fun W' k =>
  h.below (hb.trans (k.below (B := w.heap.size) hb.size (fun b e => by have e : b = gn := e; omega)))
theorem kept_gn {gn : Nat} {w w' : World} (hb : Below w.heap.size w w') : Kept (fun b => b = gn) w w' := kept_of_below hb
theorem ints_cell {w : World} {v : Value} {xs : List Int} {t : Nat} (h : IntsIn w v xs) (ht : t < xs.length) : ∃ b o n c, v = .slice (some ⟨b, o, none⟩) n c ∧ n = xs.length ∧ xs.length ≤ c ∧ c ≤ maxLen ∧ w.cell? ⟨b, o + t, none⟩ = some (.int .i64 (xs.getD t 0)) := by
  obtain ⟨ao, cap, rfl, hl, hm, hc⟩ := h
  obtain ⟨b, o, rfl, hcell⟩ := hc t ht
  exact ⟨b, o, _, cap, rfl, rfl, hl, hm, hcell⟩

end Go.Proofs.Ytjllilmiloippaa
