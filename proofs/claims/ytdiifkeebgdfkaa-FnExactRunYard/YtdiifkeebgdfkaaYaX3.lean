/- RunYard: both sides and the law. Laid together by wip/lay18.py. -/
import Derived.Test.YtdiifkeebgdfkaaCpInt
import Derived.Test.YtdiifkeebgdfkaaSgA
import Derived.Test.YtdiifkeebgdfkaaKept
import Derived.Laws.BitsAllLaws
import Derived.Deep.RegionHeld3
import Derived.Test.YtdiifkeebgdfkaaYaE
import Derived.Test.YtdiifkeebgdfkaaRYardOp
import Derived.Test.YtdiifkeebgdfkaaYaX1
import Derived.Test.YtdiifkeebgdfkaaOwnInts
import Derived.Test.YtdiifkeebgdfkaaYaX2
import Derived.Test.YtdiifkeebgdfkaaWalkQ
import Derived.Deep.DeepCutAuto
import Derived.Deep.Cut
namespace Go.Proofs.Ytdiifkeebgdfkaa
open Go.RowKit

theorem Kept.drewL {T : Nat → Prop} {w w' : World} (hk : Kept T w.drew w') : Kept T w w' := ⟨hk.os, hk.tape, hk.output, hk.size, hk.block⟩

set_option maxRecDepth 10000 in
set_option maxHeartbeats 1600000 in
theorem mul64_any (n : Nat) (w : World) (hn : n < 4294967296) :
    Calls Try.prog 113 #[.int .u64 1, .int .u64 n] w fun e w' => e = .returned (.tuple #[.int .u64 0, .int .u64 n]) ∧ w' = w := by
  have a1 : bits .and .u64 1 4294967295 = 1 := by decide
  have a2 : bits .and .u64 (n : Int) 4294967295 = (n : Int) := by
    rw [show ((4294967295 : Int)) = ((4294967295 : Nat) : Int) from rfl, u64_and_nat n 4294967295 (by omega) (by omega), nat_mask32]
    congr 1
    exact Nat.mod_eq_of_lt hn
  have a3 : bits .and .u64 0 4294967295 = 0 := by decide
  have d1 : (n : Int) / 4294967296 = 0 := by omega
  have w1 : IntKind.u64.wrap (n : Int) = (n : Int) := by rw [IntKind.wrap_u64]; omega
  go_enter Try.func113, Try.ntmps113
  go_wp2
  refine bodyPost_ret (v := .tuple #[.int .u64 0, .int .u64 n]) (by simp [results, Try.results113, go_sem, *]) rfl ⟨rfl, rfl⟩

set_option maxRecDepth 10000 in
set_option maxHeartbeats 1600000 in
theorem mul_any (n : Nat) (w : World) (hn : n < 4294967296) :
    Calls Try.prog 89 #[.int .u64 1, .int .u64 n] w fun e w' => e = .returned (.tuple #[.int .u64 0, .int .u64 n]) ∧ w' = w := by
  have HM := hide (mul64_any n w hn)
  go_enter Try.func89, Try.ntmps89
  go_wp2_with fail
  refine (unhide HM).mono ?_
  rintro e w' ⟨rfl, h9⟩
  have h8 := h9.symm
  subst h8
  clear h9
  go_wp2
  refine bodyPost_ret (v := .tuple #[.int .u64 0, .int .u64 n]) (by simp [results, Try.results89, go_sem]) rfl ⟨rfl, rfl⟩

/-- A piece of a row is copied behind itself. -/
theorem run_copy_self {P : Program} {w : World} (dT elem : TypeId) (hu : P.underlying dT = some (.slice elem)) (hsz : (P.info? elem).map (·.size) = some 1)
    (g d e k dCap sCap : Nat) (M : List Int) (hO : OwnV w g (ints M)) (hk : k = Nat.min d e) (hd : d + e ≤ M.length) :
    ∃ w', (∀ ty, (Builtin.copy_ #[dT, dT] ty #[.slice (some ⟨g, d, none⟩) e dCap, .slice (some ⟨g, 0, none⟩) d sCap]).run P w = .ok (goInt k) w') ∧ OwnV w' g (ints (M.take d ++ M.take k ++ M.drop (d + k))) ∧ Kept (fun b => b = g) w w' := by
  obtain ⟨c, t, hg, hc⟩ := hO
  have hkd : k ≤ d := by rw [hk]; exact Nat.min_le_left _ _
  have hke : k ≤ e := by rw [hk]; exact Nat.min_le_right _ _
  have hsize : M.length ≤ c.size := by
    rcases Nat.eq_zero_or_pos M.length with h0 | h0
    · omega
    · have h1 := hc (M.length - 1) (by rw [ints_length]; omega)
      rw [ints_get M (by omega)] at h1
      have := (Array.getElem?_eq_some_iff.1 h1).1
      omega
  have htl : (M.take k).length = k := by rw [List.length_take]; omega
  have hl := run_loadCells_list (P := P) w ⟨g, 0, none⟩ (ints (M.take k)) (fun j v hj => by
    have hjk : j < k := by
      rcases Nat.lt_or_ge j k with h | h
      · exact h
      · rw [List.getElem?_eq_none (by rw [ints_length, htl]; exact h)] at hj; cases hj
    rw [show (⟨g, 0, none⟩ : Addr).add j = ⟨g, 0 + j, none⟩ from by simp [Addr.add]; exact fun h => h.symm, Nat.zero_add]
    have h1 := hc j (by rw [ints_length]; omega)
    rw [ints_get M (by omega)] at h1
    rw [ints_get (M.take k) (by rw [htl]; exact hjk)] at hj
    simp [World.cell?, hg, h1, ← hj, List.getD, hjk])
  have hst := run_storeCells_at P g d t (ints (M.take k)) 0 c w hg (by rw [ints_length, htl]; omega) (fun v hv => by obtain ⟨x, _, rfl⟩ := List.mem_map.1 hv; rfl)
  simp only [Nat.add_zero] at hst
  refine ⟨w.setRow g (c.toList.take d ++ ints (M.take k) ++ c.toList.drop (d + (ints (M.take k)).length)).toArray, fun ty => ?_, ?_, ⟨rfl, rfl, rfl, by simp [World.setRow], fun b _ hb => setRow_other w g b _ (fun e => hb e)⟩⟩
  · cases hq : P.info? elem with
    | none => simp [hq] at hsz
    | some i =>
      have hi : i.size = 1 := by simpa [hq] using hsz
      rw [ints_length, htl] at hl
      simp [Builtin.copy_, run_underlying hu, Builtin.lenOf, Builtin.firstCells, sizeOf, typeInfo, hq, hi, ← hk, hl, hst]
  · refine ⟨_, t, setRow_heap w g _ _ t _ hg, fun i hi => ?_⟩
    rw [ints_length] at hi
    have hlen : (M.take d ++ M.take k ++ M.drop (d + k)).length = M.length := by simp; omega
    rw [hlen] at hi
    have hcd : ∀ j, j < M.length → c.toList[j]? = some (.int .i64 (M.getD j 0)) := fun j hj => by
      rw [Array.getElem?_toList, hc j (by rw [ints_length]; exact hj), ints_get M hj]
    have e1 : (ints (M.take k)).length = k := by rw [ints_length, htl]
    have e2 : (c.toList.take d).length = d := by rw [List.length_take, Array.length_toList]; omega
    have e3 : (M.take d).length = d := by rw [List.length_take]; omega
    rw [ints_get _ (by rw [hlen]; exact hi)]
    simp only [List.getElem?_toArray]
    rcases Nat.lt_or_ge i d with h1 | h1
    · rw [List.append_assoc, List.getElem?_append_left (by omega), List.getElem?_take, if_pos h1, hcd i hi]
      congr 2
      simp [List.getD, List.getElem?_append_left (show i < (M.take d).length by omega), h1]
    · rcases Nat.lt_or_ge i (d + k) with h2 | h2
      · rw [List.getElem?_append_left (by rw [List.length_append, e1, e2]; omega), List.getElem?_append_right (by omega), e2, ints_get _ (by omega)]
        congr 2
        simp only [List.getD]
        rw [List.getElem?_append_left (by rw [List.length_append, e3, htl]; omega), List.getElem?_append_right (by omega), e3]
      · rw [List.getElem?_append_right (by rw [List.length_append, e1, e2]; omega), List.length_append, e1, e2, List.getElem?_drop, show d + k + (i - (d + k)) = i by omega, hcd i hi]
        congr 2
        simp only [List.getD]
        rw [List.getElem?_append_right (by rw [List.length_append, e3, htl]; omega), List.length_append, e3, htl, List.getElem?_drop, show d + k + (i - (d + k)) = i by omega]

/-- d of n numbers are told. -/
def upTo (x : Int) (n d : Nat) : List Int := List.replicate d x ++ List.replicate (n - d) 0
theorem upTo_len (x : Int) {n d : Nat} (h : d ≤ n) : (upTo x n d).length = n := by simp [upTo]; omega
theorem upTo_more (x : Int) {n d k : Nat} (hk : k ≤ d) (h : d + k ≤ n) : (upTo x n d).take d ++ (upTo x n d).take k ++ (upTo x n d).drop (d + k) = upTo x n (d + k) := by
  have e1 : (upTo x n d).take d = List.replicate d x := by unfold upTo; rw [List.take_append_of_le_length (by simp)]; simp
  have e2 : (upTo x n d).take k = List.replicate k x := by unfold upTo; rw [List.take_append_of_le_length (by simp; exact hk), List.take_replicate, Nat.min_eq_left hk]
  have e3 : (upTo x n d).drop (d + k) = List.replicate (n - (d + k)) 0 := by
    unfold upTo
    rw [List.drop_append, List.drop_replicate, List.drop_replicate, List.length_replicate, show d - (d + k) = 0 by omega, show n - d - (d + k - d) = n - (d + k) by omega]
    simp
  rw [e1, e2, e3, List.replicate_append_replicate]
  rfl
theorem upTo_all (x : Int) (n : Nat) : upTo x n n = List.replicate n x := by simp [upTo]
theorem upTo_zero (x : Int) (n : Nat) : upTo x n 0 = List.replicate n 0 := by simp [upTo]

theorem madeInts (n : Nat) : (madeCells #[Value.int .i64 0] n).toList = ints (List.replicate n 0) := by
  simp [madeCells, ints]
  apply List.ext_getElem
  · simp
  · intro i h1 h2
    simp [Nat.mod_one]

theorem run_copy_first {P : Program} {w : World} (dT elem : TypeId) (hu : P.underlying dT = some (.slice elem)) (hsz : (P.info? elem).map (·.size) = some 1)
    (g n dCap sCap : Nat) (ad : Addr) (x : Int) (hn : 0 < n) (hO : OwnV w g (ints (upTo x n 0))) (hx : w.cell? ad = some (.int .i64 x)) :
    ∃ w', (∀ ty, (Builtin.copy_ #[dT, dT] ty #[.slice (some ⟨g, 0, none⟩) n dCap, .slice (some ad) 1 sCap]).run P w = .ok (goInt 1) w') ∧ OwnV w' g (ints (upTo x n 1)) ∧ Kept (fun b => b = g) w w' := by
  have hO' := hO
  obtain ⟨c, t, hg, hc⟩ := hO
  have hul := upTo_len x (n := n) (d := 0) (by omega)
  have h0 := hc 0 (by rw [ints_length, hul]; exact hn)
  rw [ints_get _ (by rw [hul]; exact hn)] at h0
  have hsize : 0 < c.size := (Array.getElem?_eq_some_iff.1 h0).1
  have hl := run_loadCells_list (P := P) w ad [.int .i64 x] (fun j v hj => by
    match j, hj with
    | 0, hj => simp at hj; rw [← hj]; simpa [Addr.add] using hx
    | j + 1, hj => simp at hj)
  have hst := run_storeCells_at P g 0 t [.int .i64 x] 0 c w hg (by simp; omega) (fun v hv => by simp at hv; rw [hv]; rfl)
  have hset : (ints (upTo x n 0)).set 0 (.int .i64 x) = ints (upTo x n 1) := by
    rw [ints_set]
    congr 1
    obtain ⟨m, rfl⟩ : ∃ m, n = m + 1 := ⟨n - 1, by omega⟩
    simp [upTo, List.replicate_succ]
  simp only [Nat.add_zero, List.take_zero, List.nil_append, List.length_cons, List.length_nil, Nat.zero_add] at hst
  refine ⟨w.setRow g ([Value.int .i64 x] ++ c.toList.drop 1).toArray, fun ty => ?_, ?_, ⟨rfl, rfl, rfl, by simp [World.setRow], fun b _ hb => setRow_other w g b _ (fun e => hb e)⟩⟩
  · have hmin : Nat.min 1 n = 1 := Nat.min_eq_left hn
    cases hq : P.info? elem with
    | none => simp [hq] at hsz
    | some i =>
      have hi : i.size = 1 := by simpa [hq] using hsz
      have hl' : (loadCells ad 1).run P w = .ok #[.int .i64 x] w := by simpa using hl
      simp [Builtin.copy_, run_underlying hu, Builtin.lenOf, Builtin.firstCells, sizeOf, typeInfo, hq, hi, hmin, hl', hst]
  · refine ⟨_, t, setRow_heap w g _ _ t _ hg, fun i hi => ?_⟩
    rw [← hset, List.length_set] at hi
    rw [← hset]
    rcases Nat.eq_zero_or_pos i with e | e
    · subst e
      simp [List.getElem?_set_self hi]
    · rw [List.getElem?_set_ne (by omega), ← hc i hi]
      obtain ⟨j, rfl⟩ : ∃ j, i = j + 1 := ⟨i - 1, by omega⟩
      simp

set_option maxRecDepth 10000 in
set_option maxHeartbeats 1600000 in
theorem repeat1_any (b o cr : Nat) (x : Int) (n : Nat) (w : World) (hx : w.cell? ⟨b, o, none⟩ = some (.int .i64 x)) (hn0 : 0 < n) (hn : n ≤ 1048576) :
    Calls Try.prog 54 #[.slice (some ⟨b, o, none⟩) 1 cr, .int .i64 n] w fun e w' => ∃ g, e = .returned (.slice (some ⟨g, 0, none⟩) n n) ∧ w.heap.size ≤ g ∧ OwnV w' g (ints (List.replicate n x)) ∧ Below w.heap.size w w' := by
  have HM := hide (mul_any n w (by omega))
  have hmk := run_make_row' (P := Try.prog) 30 3 (.int .i64 0) 8 Try.underlying30 Try.infoIntCp rfl .i64 .i64 n (by omega) (by omega)
  have hsz : (Try.prog.info? 3).map (·.size) = some 1 := by
    obtain ⟨i0, hi, hzz⟩ := Option.map_eq_some_iff.1 Try.infoIntCp
    simp only [Prod.mk.injEq] at hzz
    rw [hi, Option.map_some, hzz.2.1]
  have hO := ownV_alloc w (madeCells #[Value.int .i64 0] n) 3
  rw [madeInts, ← upTo_zero x n] at hO
  have hA := Below.alloc1 w (.cells (madeCells #[Value.int .i64 0] n) 3)
  obtain ⟨w1, hcp, hO1, hk1⟩ := run_copy_first (P := Try.prog) 30 3 Try.underlying30 hsz w.heap.size n n cr ⟨b, o, none⟩ x hn0 hO (wcell3 hx hA)
  have HB1 := hide (hA.trans (hk1.below (B := w.heap.size) hA.size (fun b e => by omega)))
  have HO1 := hide hO1
  have w1' : IntKind.u64.wrap (n : Int) = (n : Int) := by rw [IntKind.wrap_u64]; omega
  have hn64 : (n : Int) ≤ 9223372036854775807 := by omega
  have HSZ := hide hsz
  obtain ⟨g, eg⟩ : ∃ g, g = w.heap.size := ⟨_, rfl⟩
  have hgw : w.heap.size ≤ g := by omega
  clear hO hA hO1 hk1 hsz
  go_enter Try.func54, Try.ntmps54
  go_wp2_with fail
  refine (unhide HM).mono ?_
  rintro e w' ⟨rfl, h9⟩
  have h8 := h9.symm
  subst h8
  clear h9 HM
  go_wp2
  go_loopg [8] (n - 1) (fun gg dv wr => ∃ d : Nat, 0 < d ∧ d ≤ n ∧ gg = n - d ∧ dv = .int .i64 d ∧ Below w.heap.size w wr ∧ OwnV wr w.heap.size (ints (upTo x n d)))
  case atStart => exact ⟨1, by omega, by omega, rfl, by simp, unhide HB1, unhide HO1⟩
  case round =>
    obtain ⟨d, hd0, hd, rfl, rfl, hW, hO⟩ := hrel
    clear HB1 HO1 hcp hmk
    by_cases hdn : d < n
    · obtain ⟨e, he⟩ : ∃ e, n - d = e := ⟨_, rfl⟩
      obtain ⟨k, hk⟩ : ∃ k, k = Nat.min d e := ⟨_, rfl⟩
      have hkd : k ≤ d := by rw [hk]; exact Nat.min_le_left _ _
      have hke : k ≤ e := by rw [hk]; exact Nat.min_le_right _ _
      have hk0 : 0 < k := by rw [hk]; exact Nat.lt_min.2 ⟨hd0, by omega⟩
      have hne : ¬ n = d := by omega
      have hdk : d + k ≤ n := by omega
      have HWR : Hid (IntKind.i64.wrap ((d : Int) + (k : Int)) = ((d + k : Nat) : Int)) := by show _ = _; rw [IntKind.wrap_i64]; omega
      obtain ⟨w2, hcp, hO2, hk2⟩ := run_copy_self (P := Try.prog) (w := wr.drew) 30 3 Try.underlying30 (unhide HSZ) w.heap.size d e k e n (upTo x n d) hO.drew hk (by rw [upTo_len x hd]; omega)
      rw [upTo_more x hkd (by omega)] at hO2
      have HB2 := hide (hW.trans ((Kept.drewL hk2).below (B := w.heap.size) hW.size (fun b e => by omega)))
      have HO2 := hide hO2
      have HW := hide hW
      have hdi : (d : Int) < n := by omega
      have hdi2 : (d : Int) ≤ n := by omega
      clear hO2 hk2 hW hO hk
      go_wp2
      go_region_held3 (fun _ => True) (trivial) (fail)
      go_wp2
      go_roundg (n - (d + k))
      case measure => omega
      case rel => refine ⟨d + k, by omega, hdk, rfl, ?_, unhide HB2, unhide HO2⟩; rw [unhide HWR]
    · have hdd : d = n := by omega
      subst hdd
      rw [upTo_all] at hO
      have HO := hide hO
      have HW := hide hW
      clear hO hW
      go_wp2
      go_ret
      exact ⟨_, rfl, Nat.le_refl _, unhide HO, unhide HW⟩

end Go.Proofs.Ytdiifkeebgdfkaa

namespace Go.Proofs.Ytdiifkeebgdfkaa
open Go.RowKit

/-- The codes of the first k ops. -/
noncomputable def cdsY (H : Int) (R : List (List Int)) (L : List (Int × Int × Int)) (k : Nat) : List Int := (List.range k).map (cdY H R L)
theorem cds_len (H : Int) (R : List (List Int)) (L : List (Int × Int × Int)) (k : Nat) : (cdsY H R L k).length = k := by simp [cdsY]
theorem cds_succ (H : Int) (R : List (List Int)) (L : List (Int × Int × Int)) (k : Nat) : cdsY H R L (k + 1) = cdsY H R L k ++ [cdY H R L k] := by simp [cdsY, List.range_succ]
/-- .. in a list of n. -/
noncomputable def cdR (H : Int) (R : List (List Int)) (L : List (Int × Int × Int)) (n k : Nat) : List Int := cdsY H R L k ++ List.replicate (n - k) 0
theorem cdR_zero (H : Int) (R : List (List Int)) (L : List (Int × Int × Int)) (n : Nat) : cdR H R L n 0 = List.replicate n 0 := by simp [cdR, cdsY]
theorem cdR_len {H : Int} {R : List (List Int)} {L : List (Int × Int × Int)} {n k : Nat} (h : k ≤ n) : (cdR H R L n k).length = n := by
  rw [cdR, List.length_append, cds_len, List.length_replicate]; omega
theorem cdR_all (H : Int) (R : List (List Int)) (L : List (Int × Int × Int)) (n : Nat) : cdR H R L n n = cdsY H R L n := by simp [cdR]
theorem cdR_set {H : Int} {R : List (List Int)} {L : List (Int × Int × Int)} {n k : Nat} (h : k < n) : (cdR H R L n k).set k (cdY H R L k) = cdR H R L n (k + 1) := by
  unfold cdR
  rw [cds_succ, List.set_append_right _ _ (by rw [cds_len]; exact Nat.le_refl _), cds_len, Nat.sub_self, show n - k = (n - (k + 1)) + 1 by omega, List.replicate_succ, List.set_cons_zero, List.append_assoc]
  rfl
theorem cds_bad {H : Int} {R : List (List Int)} (h : ¬ YOk H R) (L : List (Int × Int × Int)) (k : Nat) : cdsY H R L k = List.replicate k 1 := by
  induction k with
  | zero => rfl
  | succ k ih => rw [cds_succ, ih, cd_bad h, List.replicate_succ']

/-- The yard, the codes, the sum. -/
noncomputable def rnY (H : Int) (R : List (List Int)) (L : List (Int × Int × Int)) : List (List Int) × List Int × Int :=
  if L.length ≤ 200 then ((stY H R L L.length).1, cdsY H R L L.length, (stY H R L L.length).2) else (R, [], 0)
theorem rn_many {H : Int} {R : List (List Int)} {L : List (Int × Int × Int)} (h : ¬ L.length ≤ 200) : rnY H R L = (R, [], 0) := by rw [rnY, if_neg h]
theorem rn_few {H : Int} {R : List (List Int)} {L : List (Int × Int × Int)} (h : L.length ≤ 200) : rnY H R L = ((stY H R L L.length).1, cdsY H R L L.length, (stY H R L L.length).2) := by rw [rnY, if_pos h]
theorem rn_bad {H : Int} {R : List (List Int)} {L : List (Int × Int × Int)} (h : L.length ≤ 200) (hy : ¬ YOk H R) : rnY H R L = (R, List.replicate L.length 1, 0) := by rw [rn_few h, st_bad hy, cds_bad hy]
theorem rn_len (H : Int) (R : List (List Int)) (L : List (Int × Int × Int)) : (rnY H R L).1.length = R.length := by
  by_cases h : L.length ≤ 200
  · rw [rn_few h]; exact st_len H R L _
  · rw [rn_many h]
theorem rn_rows {H : Int} {R : List (List Int)} (L : List (Int × Int × Int)) (hl : ∀ i, i < R.length → (R.getD i []).length ≤ 1048576) : ∀ i, i < (rnY H R L).1.length → ((rnY H R L).1.getD i []).length ≤ 1048576 := fun i hi => by
  by_cases h : L.length ≤ 200
  · by_cases hy : YOk H R
    · have h1 := st_ok hy L L.length
      rw [rn_few h] at hi ⊢
      have h2 := h1.low i hi
      have h3 := h1.h2
      dsimp only
      omega
    · rw [rn_bad h hy] at hi ⊢; exact hl i hi
  · rw [rn_many h] at hi ⊢; exact hl i hi
theorem rn_codes (H : Int) (R : List (List Int)) (L : List (Int × Int × Int)) : (rnY H R L).2.1.length ≤ 200 := by
  by_cases h : L.length ≤ 200
  · rw [rn_few h]; dsimp only; rw [cds_len]; exact h
  · rw [rn_many h]; simp

theorem run_copy_none {P : Program} (w : World) (dT sT ty elem : TypeId) (hu : P.underlying dT = some (.slice elem)) (hsz : (P.info? elem).map (·.size) = some 1) (a : Option Addr) (ad : Addr) (dCap sCap : Nat) :
    (Builtin.copy_ #[dT, sT] ty #[.slice a 0 dCap, .slice (some ad) 1 sCap]).run P w = .ok (goInt 0) w := by
  cases hq : P.info? elem with
  | none => simp [hq] at hsz
  | some i =>
    have hl : ∀ (x : Addr), (loadCells x 0).run P w = .ok #[] w := fun x => by simpa using run_loadCells_list (P := P) w x [] (by simp)
    cases a <;> simp [Builtin.copy_, run_underlying hu, Builtin.lenOf, Builtin.firstCells, sizeOf, typeInfo, hq, storeCells, hl]

set_option maxRecDepth 10000 in
set_option maxHeartbeats 1600000 in
theorem repeat0_any (b o cr : Nat) (w : World) :
    Calls Try.prog 54 #[.slice (some ⟨b, o, none⟩) 1 cr, .int .i64 0] w fun e w' => ∃ g, e = .returned (.slice (some ⟨g, 0, none⟩) 0 0) ∧ Below w.heap.size w w' := by
  have HM := hide (mul_any 0 w (by omega))
  have hmk := run_make_row' (P := Try.prog) 30 3 (.int .i64 0) 8 Try.underlying30 Try.infoIntCp rfl .i64 .i64 0 (by omega) (by omega)
  rw [show ((0 : Nat) : Int) = (0 : Int) from rfl] at hmk
  have HB1 := hide (Below.alloc1 w (.cells (madeCells #[Value.int .i64 0] 0) 3))
  have hsz : (Try.prog.info? 3).map (·.size) = some 1 := by
    obtain ⟨i0, hi, hzz⟩ := Option.map_eq_some_iff.1 Try.infoIntCp
    simp only [Prod.mk.injEq] at hzz
    rw [hi, Option.map_some, hzz.2.1]
  have hcp := fun W ty (a : Option Addr) (c : Nat) => run_copy_none (P := Try.prog) W 30 30 ty 3 Try.underlying30 hsz a ⟨b, o, none⟩ c cr
  clear hsz
  go_enter Try.func54, Try.ntmps54
  go_wp2_with fail
  refine (unhide HM).mono ?_
  rintro e w' ⟨rfl, h9⟩
  have h8 := h9.symm
  subst h8
  clear h9 HM
  go_wp2
  go_loopg [8] 0 (fun _ dv wr => dv = .int .i64 0 ∧ Hid (Below w.heap.size w wr))
  case atStart => exact ⟨by simp, HB1⟩
  case round =>
    obtain ⟨rfl, HW⟩ := hrel
    go_wp2
    go_ret
    exact ⟨_, rfl, unhide HW⟩

end Go.Proofs.Ytdiifkeebgdfkaa

namespace Go.Proofs.Ytdiifkeebgdfkaa
open Go.RowKit

theorem noLink_kept {T : Nat → Prop} {w w' : World} {k : Nat} (h : NoLink w k) (hk : Kept T w w') (hlt : k < w.heap.size) (hT : ¬ T k) : NoLink w' k := fun x q h1 h2 => by
  have e := hk.block k hlt hT
  rw [World.cell?_of_block (w := w) (a := ⟨k, 0, none⟩) e] at h1
  rw [World.cell?_of_block (w := w) (a := ⟨k, 1, none⟩) e] at h2
  exact h x q h1 h2
theorem noLink_set {w : World} {k i : Nat} {u v : Int} (h : NoLink w k) (hc : w.cell? ⟨k, i, none⟩ = some (.int .i64 u)) : NoLink (w.setCell ⟨k, i, none⟩ (.int .i64 v)) k := fun x q h1 h2 => by
  by_cases e : i = 1
  · subst e
    rw [World.cell?_setCell_same (h := hc)] at h2
    cases h2
  · rw [World.cell?_setCell_other (h := by intro e2; simp only [Addr.mk.injEq, and_true, true_and] at e2; exact e e2)] at h2
    by_cases e0 : i = 0
    · subst e0
      exact h u q hc h2
    · rw [World.cell?_setCell_other (h := by intro e2; simp only [Addr.mk.injEq, and_true, true_and] at e2; exact e0 e2)] at h1
      exact h x q h1 h2
theorem noLink_made (w : World) (n : Nat) (t : TypeId) : NoLink (w.alloc (.cells (madeCells #[.int .i64 0] n) t)) w.heap.size := fun x q _ h2 => by
  by_cases hn : 1 < n
  · have ho := ownV_alloc w (madeCells #[.int .i64 0] n) t
    rw [made_ints] at ho
    have h3 := ho.cell (ints_get (List.replicate n 0) (show 1 < (List.replicate n (0 : Int)).length by rw [List.length_replicate]; exact hn))
    rw [h3] at h2
    cases h2
  · rw [World.cell?_alloc_new] at h2
    have hs : (madeCells #[.int .i64 0] n).size = n := by simp [madeCells]
    rw [Array.getElem?_eq_none (by rw [hs]; omega)] at h2
    cases h2

/-- What RunYard answers: a yard and codes of the call's own, apart; the sum. -/
def RnA (w : World) (H : Int) (D : List (List Int) × List Int × Int) (e : Ending) (w' : World) : Prop :=
  ∃ yv cv B1 U1 B2 U2 g cap co cn cc, e = .returned (.tuple #[yardV H yv, cv, .int .i64 D.2.2]) ∧ yv = .slice (some ⟨g, 0, none⟩) D.1.length cap ∧ cv = .slice co cn cc ∧ OwnRowsU B1 U1 w' yv D.1 ∧ OwnIntsU B2 U2 w' cv D.2.1 ∧ w.heap.size ≤ B1 ∧ w.heap.size ≤ B2 ∧ U1 ≤ w'.heap.size ∧ U2 ≤ w'.heap.size ∧ (U1 ≤ B2 ∨ U2 ≤ B1) ∧ Below w.heap.size w w'

theorem ownU_of {B U : Nat} {w : World} {g cap : Nat} {G C : Nat → Nat} {R : List (List Int)} (h : OwnRows B w g G C R) (h1 : R.length ≤ cap) (h2 : cap ≤ maxLen) (hU : U = w.heap.size) : OwnRowsU B U w (.slice (some ⟨g, 0, none⟩) R.length cap) R :=
  hU ▸ Or.inr ⟨g, G, C, cap, rfl, h1, h2, h, h.top.lt, fun r hr => (h.rows r hr).lt⟩

set_option maxRecDepth 10000 in
set_option maxHeartbeats 16000000 in
theorem implRunYard_any (H : Int) (v : Value) (R : List (List Int)) (ov : Value) (L : List YardOpT) (w : World) (h : RowsIn w v R) (hO : RYardOp w ov L) (hn : R.length ≤ 1048576) (hl : ∀ s, s < R.length → (R.getD s []).length ≤ 1048576) (hLn : L.length ≤ 1048576) :
    Calls Try.prog 16 #[yardV H v, ov] w fun e w' => RnA w H (rnY H R L) e w' := by
  obtain ⟨⟨D1, D2, D3⟩, eD⟩ : ∃ D, D = rnY H R L := ⟨_, rfl⟩
  rw [← eD]
  have ED := hide eD
  clear eD
  have HV := hide h
  have HL := hide hl
  have HVO := hide hO
  obtain ⟨oo, ocap, rfl, hol, hom, -⟩ := hO
  unfold maxLen at hom
  obtain ⟨ao, cap, rfl, hc1, hc2⟩ := rows_cap h
  clear h hl
  have HYK := hide fun W (hb : Below w.heap.size w W) => implYardOk_any H (.slice ao R.length cap) R W ((unhide HV).below hb)
  have HYT : Hid (yardB H R = true → YOk H R) := fun h => of_decide_eq_true h
  have HYF : Hid (yardB H R = false → ¬ YOk H R) := fun h => of_decide_eq_false h
  have HBG := hide fun (hy : YOk H R) W (hb : Below w.heap.size w W) => boxGround_any H (.slice ao R.length cap) R W ((unhide HV).below hb) hy
  have HOY := hide fun W (hb : Below w.heap.size w W) => ownYard_any H (.slice ao R.length cap) R W ((unhide HV).below hb) hn (unhide HL)
  generalize yardB H R = r at HYK HYT HYF
  unfold yardV at HYK HBG HOY ⊢
  unfold gndV at HBG
  go_enter Try.func16, Try.ntmps16
  go_upto_region 1 with (fail)
  obtain ⟨g0, eg0⟩ : ∃ z, z = w.heap.size := ⟨_, rfl⟩
  obtain ⟨W, eW⟩ : ∃ z, z = (w.alloc (.cells #[.int .i64 H, .slice ao R.length cap] 26)).alloc (.cells #[.int .i64 0, .slice none 0 0] 26) := ⟨_, rfl⟩
  have HW : Hid (Below w.heap.size w W) := by rw [eW]; exact Below.step (Below.alloc1 _ _) (Below.alloc1 _ _)
  have HB : Hid (OwnV W g0 [.int .i64 H, .slice ao R.length cap]) := by rw [eW, eg0]; exact (ownV_alloc _ _ _).step (Below.alloc1 _ _)
  have HA : Hid (OwnV W (g0 + 1) [.int .i64 0, .slice none 0 0]) := by rw [eW, eg0]; exact own_new _ _ _ _ (by simp)
  rw [← eW, ← eg0]
  have hg0 : w.heap.size ≤ g0 := by omega
  clear eW eg0
  by_cases h200 : L.length ≤ 200
  case neg =>
    have HD := hide ((unhide ED).trans (rn_many h200))
    have n200 : ((200 : Int) < (L.length : Int)) := by omega
    have d200 : decide ((200 : Int) < (L.length : Int)) = true := decide_eq_true n200
    have b0 := (unhide HB).cell (i := 0) rfl
    have b1 := (unhide HB).cell (i := 1) rfl
    go_wp2_with fail
    refine (unhide HOY _ (unhide HW)).mono ?_
    rintro e w1 ⟨gz, Gz, Cz, capz, rfl, hz1, hz2, hOR, hb⟩
    have hbz := hOR.base
    obtain ⟨Uz, eUz⟩ : ∃ z, z = w1.heap.size := ⟨_, rfl⟩
    have HOR := hide (ownU_of hOR hz1 hz2 eUz)
    have hsw := (unhide HW).size
    have hal := (unhide HA).lt
    obtain ⟨Bz, eBz⟩ : ∃ z, z = W.heap.size := ⟨_, rfl⟩
    rw [← eBz] at HOR hsw hal hbz
    have hBU : Bz ≤ Uz := by rw [eBz, eUz]; exact hb.size
    have EUZ := hide eUz
    replace HW := hide (Below.step (unhide HW) hb)
    replace HB := hide ((unhide HB).step hb)
    replace HA := hide ((unhide HA).step hb)
    have hUz1 : Uz ≤ w1.heap.size := Nat.le_of_eq eUz
    clear hOR hb b0 b1 eBz eUz
    unfold yardV
    have HKS : Hid (Kept (fun b => b = g0 + 1) w1 ((w1.setCell ⟨g0 + 1, 0, none⟩ (.int .i64 H)).setCell ⟨g0 + 1, 1, none⟩ (.slice (some ⟨gz, 0, none⟩) R.length capz))) := ((Kept.refl (fun b => b = g0 + 1) _).setCell (p := ⟨g0 + 1, 0, none⟩) rfl _).setCell (p := ⟨g0 + 1, 1, none⟩) rfl _
    have rf0 := (unhide HA).frozen 0
    have rf1 := (unhide HA).frozen 1
    have r0 := (unhide HA).cell (i := 0) rfl
    have r1 := (unhide HA).cell (i := 1) rfl
    have f0 := (((unhide HA).set 0 (.int .i64 H) (by simp)).set 1 (.slice (some ⟨gz, 0, none⟩) R.length capz) (by simp)).cell (i := 0) rfl
    have f1 := (((unhide HA).set 0 (.int .i64 H) (by simp)).set 1 (.slice (some ⟨gz, 0, none⟩) R.length capz) (by simp)).cell (i := 1) rfl
    have hWB : Below w.heap.size w w1 := unhide HW
    go_wp2
    refine bodyPost_ret (v := .tuple #[.agg #[.int .i64 H, .slice (some ⟨gz, 0, none⟩) R.length capz], .slice none 0 0, .int .i64 0]) (by simp [results, Try.results16, go_sem, f0, f1]) rfl ?_
    have eD := unhide HD
    simp only [Prod.mk.injEq] at eD
    obtain ⟨e1, e2, e3⟩ := eD
    subst e1 e2 e3
    exact ⟨_, _, Bz, Uz, Uz, Uz, gz, capz, none, 0, 0, rfl, rfl, rfl, (unhide HOR).kept (unhide HKS) (fun b h1 h2 e => by omega), ⟨none, 0, rfl, Nat.le_refl _, Nat.zero_le _, fun h => absurd rfl h⟩, hsw, by omega, Nat.le_trans hUz1 (unhide HKS).size, Nat.le_trans hUz1 (unhide HKS).size, Or.inl (Nat.le_refl _), below_kept hWB (unhide HKS) hWB.size (fun b e => by omega)⟩
  have n200 : ¬ ((200 : Int) < (L.length : Int)) := by omega
  have d200 : decide ((200 : Int) < (L.length : Int)) = false := decide_eq_false n200
  have b0 := (unhide HB).cell (i := 0) rfl
  have b1 := (unhide HB).cell (i := 1) rfl
  go_wp2_with fail
  refine (unhide HYK _ (unhide HW)).mono ?_
  rintro e w1 ⟨rfl, hb⟩
  replace HW := hide (Below.step (unhide HW) hb)
  replace HB := hide ((unhide HB).step hb)
  replace HA := hide ((unhide HA).step hb)
  clear hb b0 b1
  clear HYK n200 d200
  cases r with
  | false =>
    have HD := hide ((unhide ED).trans (rn_bad h200 (unhide HYF (by first | rfl | trivial))))
    have b0 := (unhide HB).cell (i := 0) rfl
    have b1 := (unhide HB).cell (i := 1) rfl
    go_wp2_with fail
    refine (unhide HOY _ (unhide HW)).mono ?_
    rintro e w2 ⟨gz, Gz, Cz, capz, rfl, hz1, hz2, hOR, hb⟩
    have hbz := hOR.base
    obtain ⟨Uz, eUz⟩ : ∃ z, z = w2.heap.size := ⟨_, rfl⟩
    have HOR := hide (ownU_of hOR hz1 hz2 eUz)
    have hsw := (unhide HW).size
    have hal := (unhide HA).lt
    obtain ⟨Bz, eBz⟩ : ∃ z, z = w1.heap.size := ⟨_, rfl⟩
    rw [← eBz] at HOR hsw hal hbz
    have hBU : Bz ≤ Uz := by rw [eBz, eUz]; exact hb.size
    have EUZ := hide eUz
    replace HW := hide (Below.step (unhide HW) hb)
    replace HB := hide ((unhide HB).step hb)
    replace HA := hide ((unhide HA).step hb)
    have hUz1 : Uz ≤ w2.heap.size := Nat.le_of_eq eUz
    clear hOR hb b0 b1 eBz eUz
    unfold yardV
    by_cases hL0 : L.length = 0
    · have HQ := hide fun b o cr W => repeat0_any b o cr W
      have hL1 : (L.length : Int) = 0 := by omega
      have HL0 := hide hL0
      have HOR2 := hide ((unhide HOR).below (Below.alloc1 w2 (.cells #[.int .i64 1] 3)))
      have HA2 := hide ((unhide HA).step (Below.alloc1 w2 (.cells #[.int .i64 1] 3)))
      have HW2 := hide (Below.step (unhide HW) (Below.alloc1 w2 (.cells #[.int .i64 1] 3)))
      clear hL0
      go_wp2_with fail
      refine (unhide HQ _ _ _ _).mono ?_
      rintro e w3 ⟨gr, rfl, hb⟩
      clear HW HA HOR
      have HW := hide (Below.step (unhide HW2) hb)
      have HA := hide ((unhide HA2).step hb)
      have HOR := hide ((unhide HOR2).below hb)
      have hUz3 : Uz ≤ w3.heap.size := by have h1 := hb.size; simp only [World.size_alloc] at h1; have := unhide EUZ; omega
      have HCN : Hid (OwnIntsU Uz Uz w3 (.slice (some ⟨gr, 0, none⟩) 0 0) (List.replicate L.length 1)) := by rw [unhide HL0]; exact ⟨_, 0, rfl, Nat.le_refl _, Nat.zero_le _, fun h => absurd rfl h⟩
      clear HW2 HA2 HOR2 hb HQ hL1
      have HKS : Hid (Kept (fun b => b = g0 + 1) w3 ((w3.setCell ⟨g0 + 1, 0, none⟩ (.int .i64 H)).setCell ⟨g0 + 1, 1, none⟩ (.slice (some ⟨gz, 0, none⟩) R.length capz))) := ((Kept.refl (fun b => b = g0 + 1) _).setCell (p := ⟨g0 + 1, 0, none⟩) rfl _).setCell (p := ⟨g0 + 1, 1, none⟩) rfl _
      have rf0 := (unhide HA).frozen 0
      have rf1 := (unhide HA).frozen 1
      have r0 := (unhide HA).cell (i := 0) rfl
      have r1 := (unhide HA).cell (i := 1) rfl
      have f0 := (((unhide HA).set 0 (.int .i64 H) (by simp)).set 1 (.slice (some ⟨gz, 0, none⟩) R.length capz) (by simp)).cell (i := 0) rfl
      have f1 := (((unhide HA).set 0 (.int .i64 H) (by simp)).set 1 (.slice (some ⟨gz, 0, none⟩) R.length capz) (by simp)).cell (i := 1) rfl
      have hWB : Below w.heap.size w w3 := unhide HW
      go_wp2
      refine bodyPost_ret (v := .tuple #[.agg #[.int .i64 H, .slice (some ⟨gz, 0, none⟩) R.length capz], .slice (some ⟨gr, 0, none⟩) 0 0, .int .i64 0]) (by simp [results, Try.results16, go_sem, f0, f1]) rfl ?_
      have eD := unhide HD
      simp only [Prod.mk.injEq] at eD
      obtain ⟨e1, e2, e3⟩ := eD
      subst e1 e2 e3
      exact ⟨_, _, Bz, Uz, Uz, Uz, gz, capz, _, _, _, rfl, rfl, rfl, (unhide HOR).kept (unhide HKS) (fun b h1 h2 e => by omega), (unhide HCN).kept (unhide HKS) (fun b h1 h2 e => by omega), hsw, by omega, Nat.le_trans hUz3 (unhide HKS).size, Nat.le_trans hUz3 (unhide HKS).size, Or.inl (Nat.le_refl _), below_kept hWB (unhide HKS) hWB.size (fun b e => by omega)⟩
    · have HOR2 := hide ((unhide HOR).below (Below.alloc1 w2 (.cells #[.int .i64 1] 3)))
      have HA2 := hide ((unhide HA).step (Below.alloc1 w2 (.cells #[.int .i64 1] 3)))
      have HW2 := hide (Below.step (unhide HW) (Below.alloc1 w2 (.cells #[.int .i64 1] 3)))
      have HQ := hide (repeat1_any w2.heap.size 0 1 1 L.length (w2.alloc (.cells #[.int .i64 1] 3)) ((ownV_alloc w2 #[.int .i64 1] 3).cell (i := 0) rfl) (by omega) (by omega))
      go_wp2_with fail
      refine (unhide HQ).mono ?_
      rintro e w3 ⟨gr, rfl, hgr, hoc, hb⟩
      clear HW HA HOR
      have HW := hide (Below.step (unhide HW2) hb)
      have HA := hide ((unhide HA2).step hb)
      have HOR := hide ((unhide HOR2).below hb)
      have hUz3 : Uz ≤ w3.heap.size := by have h1 := hb.size; simp only [World.size_alloc] at h1; have := unhide EUZ; omega
      have HCN : Hid (OwnIntsU Uz w3.heap.size w3 (.slice (some ⟨gr, 0, none⟩) L.length L.length) (List.replicate L.length 1)) := by
        have hlr : (List.replicate L.length (1 : Int)).length = L.length := List.length_replicate
        refine ⟨_, L.length, by rw [hlr], by rw [hlr]; exact Nat.le_refl _, by unfold maxLen; omega, fun _ => ⟨gr, rfl, by simp only [World.size_alloc] at hgr; have := unhide EUZ; omega, hoc.lt, hoc⟩⟩
      clear HW2 HA2 HOR2 hb HQ hoc
      have HKS : Hid (Kept (fun b => b = g0 + 1) w3 ((w3.setCell ⟨g0 + 1, 0, none⟩ (.int .i64 H)).setCell ⟨g0 + 1, 1, none⟩ (.slice (some ⟨gz, 0, none⟩) R.length capz))) := ((Kept.refl (fun b => b = g0 + 1) _).setCell (p := ⟨g0 + 1, 0, none⟩) rfl _).setCell (p := ⟨g0 + 1, 1, none⟩) rfl _
      have rf0 := (unhide HA).frozen 0
      have rf1 := (unhide HA).frozen 1
      have r0 := (unhide HA).cell (i := 0) rfl
      have r1 := (unhide HA).cell (i := 1) rfl
      have f0 := (((unhide HA).set 0 (.int .i64 H) (by simp)).set 1 (.slice (some ⟨gz, 0, none⟩) R.length capz) (by simp)).cell (i := 0) rfl
      have f1 := (((unhide HA).set 0 (.int .i64 H) (by simp)).set 1 (.slice (some ⟨gz, 0, none⟩) R.length capz) (by simp)).cell (i := 1) rfl
      have hWB : Below w.heap.size w w3 := unhide HW
      go_wp2
      refine bodyPost_ret (v := .tuple #[.agg #[.int .i64 H, .slice (some ⟨gz, 0, none⟩) R.length capz], .slice (some ⟨gr, 0, none⟩) L.length L.length, .int .i64 0]) (by simp [results, Try.results16, go_sem, f0, f1]) rfl ?_
      have eD := unhide HD
      simp only [Prod.mk.injEq] at eD
      obtain ⟨e1, e2, e3⟩ := eD
      subst e1 e2 e3
      exact ⟨_, _, Bz, Uz, Uz, w3.heap.size, gz, capz, _, _, _, rfl, rfl, rfl, (unhide HOR).kept (unhide HKS) (fun b h1 h2 e => by omega), (unhide HCN).kept (unhide HKS) (fun b h1 h2 e => by omega), hsw, by omega, Nat.le_trans hUz3 (unhide HKS).size, (unhide HKS).size, Or.inl (Nat.le_refl _), below_kept hWB (unhide HKS) hWB.size (fun b e => by omega)⟩
  | true =>
    have hy := unhide HYT (by first | rfl | trivial)
    have HY := hide hy
    have hn1 := hy.n1
    have hn2 := hy.n2
    clear hy HYT HYF
    have HD := hide ((unhide ED).trans (rn_few h200))
    have hmk := run_make_row' (P := Try.prog) 30 3 (.int .i64 0) 8 Try.underlying30 Try.info3 rfl .i64 .i64 L.length (by omega) (by omega)
    have b0 := (unhide HB).cell (i := 0) rfl
    have b1 := (unhide HB).cell (i := 1) rfl
    go_upto_region 5 with (fail)
    clear b0 b1
    go_cut [7, 8, 9] (fun s7 s8 s9 wx => ∃ (gb g' gc : Nat) (Z' : List (Option Addr × Nat)), s7 = .pointer (some ⟨gb, 0, none⟩) ∧ s8 = .slice (some ⟨gc, 0, none⟩) L.length L.length ∧ s9 = .int .i64 0 ∧ g0 + 1 < gb ∧ g0 + 1 < gc ∧ gb ≠ gc ∧ Hid (Below w.heap.size w wx) ∧ Hid (OwnV wx (g0 + 1) [.int .i64 0, .slice none 0 0]) ∧ Hid (OwnV wx gb [.int .i64 H, .slice (some ⟨g', 0, none⟩) R.length R.length]) ∧ Hid (Gnd wx g' Z' (pilF idF R)) ∧ Hid (OwnV wx gc (ints (List.replicate L.length 0))) ∧ Hid (NoLink wx gc))
    case first =>
      have hal := (unhide HA).lt
      obtain ⟨wd, ewd⟩ : ∃ z, z = w1.drew := ⟨_, rfl⟩
      have hb : Below w1.heap.size w1 wd := by rw [ewd]; exact (Below.refl _ _).drew
      have hlwd := Nat.lt_of_lt_of_le hal hb.size
      replace HW := hide (Below.step (unhide HW) hb)
      replace HB := hide ((unhide HB).step hb)
      replace HA := hide ((unhide HA).step hb)
      clear hb
      refine wp_region_held_drew (S := fun w' => w'.cell? ⟨g0, 0, none⟩ = some (.int .i64 H) ∧ w'.cell? ⟨g0, 1, none⟩ = some (.slice ao R.length cap)) (by kernel_rfl) ⟨by rw [← ewd]; exact (unhide HB).cell (i := 0) rfl, by rw [← ewd]; exact (unhide HB).cell (i := 1) rfl⟩ (fun hHeld => ?_)
      rw [← ewd] at hHeld ⊢
      clear ewd
      refine wpAnyH_take (i := 0) (v := ?_) rfl (by kernel_rfl) (by kernel_rfl) (by kernel_rfl) (fun _ _ _ h => h) (Or.inl ⟨by rfl, ?_⟩) (by assumption) ?_
      rotate_left
      · intro wy hSw
        obtain ⟨hS0, hS1⟩ := hSw
        go_simp
        try with_reducible rfl
      try simp only [Act.put, List.getElem_toArray, List.getElem_cons_zero, List.setIfInBounds_toArray, List.set_cons_zero, List.set_cons_succ]
      refine wpAnyH_take (i := 2) (v := ?_) rfl (by kernel_rfl) (by kernel_rfl) (by kernel_rfl) (fun _ _ _ h => h) (Or.inl ⟨by rfl, ?_⟩) (by assumption) ?_
      rotate_left
      · intro wy hSw
        obtain ⟨hS0, hS1⟩ := hSw
        go_simp
        try with_reducible rfl
      try simp only [Act.put, List.getElem_toArray, List.getElem_cons_succ, List.getElem_cons_zero, List.setIfInBounds_toArray, List.set_cons_zero, List.set_cons_succ]
      refine wpAnyH_take (i := 3) (v := ?_) rfl (by kernel_rfl) (by kernel_rfl) (by kernel_rfl) (fun _ _ _ h => h) (Or.inl ⟨by rfl, ?_⟩) (by assumption) ?_
      rotate_left
      · intro wy hSw
        obtain ⟨hS0, hS1⟩ := hSw
        go_simp
        try with_reducible rfl
      try simp only [Act.put, List.getElem_toArray, List.getElem_cons_succ, List.getElem_cons_zero, List.setIfInBounds_toArray, List.set_cons_zero, List.set_cons_succ]
      refine wpAnyH_ready (rs := [1, 4, 5]) (by kernel_rfl) (by simp) ?_
      refine AllReadyH.cons rfl (fun K hK => ?_) (AllReadyH.cons rfl (fun K hK => ?_) (AllReadyH.cons rfl (fun K hK => ?_) (AllReadyH.nil)))
      · go_simp
        have HCQ := hide (unhide HBG (unhide HY) wd (unhide HW))
        refine (unhide HCQ).mono ?_
        rintro e v1 ⟨g', Z', rfl, hg1, hG1, hb⟩
        have hlv1 := Nat.lt_of_lt_of_le hlwd hb.size
        replace HW := hide (Below.step (unhide HW) hb)
        replace HB := hide ((unhide HB).step hb)
        replace HA := hide ((unhide HA).step hb)
        have HN := hide hG1
        clear hG1 hb HCQ
        refine hK.out _ _ ⟨(unhide HB).cell (i := 0) rfl, (unhide HB).cell (i := 1) rfl⟩ (fun hHeld => ?_)
        clear hK K
        try simp only [Act.put, List.setIfInBounds_toArray, List.set_cons_zero, List.set_cons_succ]
        refine wpAnyH_ready (rs := [4, 5]) (by kernel_rfl) (by simp) ?_
        refine AllReadyH.cons rfl (fun K hK => ?_) (AllReadyH.cons rfl (fun K hK => ?_) (AllReadyH.nil))
        · go_simp
          obtain ⟨gc, egc⟩ : ∃ z, z = v1.heap.size := ⟨_, rfl⟩
          have hgc : g0 + 1 < gc := by rw [egc]; exact hlv1
          obtain ⟨v41, ew⟩ : ∃ z, z = v1.alloc (.cells (madeCells #[.int .i64 0] L.length) 3) := ⟨_, rfl⟩
          have hb : Below v1.heap.size v1 v41 := by rw [ew]; exact Below.alloc1 _ _
          have hlv41 := Nat.lt_of_lt_of_le hlv1 hb.size
          have HD0' : Hid (OwnV v41 gc (ints (List.replicate L.length 0))) := by rw [ew, egc, ← made_ints]; exact ownV_alloc _ _ _
          have HNL' : Hid (NoLink v41 gc) := by rw [ew, egc]; exact noLink_made _ _ _
          rw [← ew, ← egc]
          replace HW := hide (Below.step (unhide HW) hb)
          replace HB := hide ((unhide HB).step hb)
          replace HA := hide ((unhide HA).step hb)
          replace HN := hide ((unhide HN).below hb)
          have HD0 := HD0'
          have HNL := HNL'
          clear hb ew egc HD0' HNL'
          refine hK.out _ _ ⟨(unhide HB).cell (i := 0) rfl, (unhide HB).cell (i := 1) rfl⟩ (fun hHeld => ?_)
          clear hK K
          try simp only [Act.put, List.setIfInBounds_toArray, List.set_cons_zero, List.set_cons_succ]
          refine wpAnyH_ready (rs := [5]) (by kernel_rfl) (by simp) ?_
          refine AllReadyH.cons rfl (fun K hK => ?_) (AllReadyH.nil)
          go_simp
          obtain ⟨gb, egb⟩ : ∃ z, z = v41.heap.size := ⟨_, rfl⟩
          have hgb : g0 + 1 < gb := by rw [egb]; exact hlv41
          have hbc : gb ≠ gc := by have h1 := (unhide HD0).lt; omega
          obtain ⟨v514, ew⟩ : ∃ z, z = v41.alloc (.cells #[.int .i64 0, .slice none 0 0] 73) := ⟨_, rfl⟩
          have hb : Below v41.heap.size v41 v514 := by rw [ew]; exact Below.alloc1 _ _
          have hlv514 := Nat.lt_of_lt_of_le hlv41 hb.size
          have HBB' : Hid (OwnV v514 gb [.int .i64 0, .slice none 0 0]) := by rw [ew, egb]; exact ownV_alloc _ _ _
          rw [← ew, ← egb]
          replace HW := hide (Below.step (unhide HW) hb)
          replace HB := hide ((unhide HB).step hb)
          replace HA := hide ((unhide HA).step hb)
          replace HN := hide ((unhide HN).below hb)
          have hgcw := (unhide HD0).lt
          replace HNL := hide (noLink_kept (T := fun _ => False) (unhide HNL) (kept_of_below hb) hgcw id)
          clear hgcw
          replace HD0 := hide ((unhide HD0).step hb)
          have HBB := HBB'
          clear hb ew egb HBB'
          refine hK.out _ _ ⟨(unhide HB).cell (i := 0) rfl, (unhide HB).cell (i := 1) rfl⟩ (fun hHeld => ?_)
          clear hK K
          try simp only [Act.put, List.setIfInBounds_toArray, List.set_cons_zero, List.set_cons_succ]
          refine wpAnyH_ready (rs := [6]) (by kernel_rfl) (by simp) ?_
          refine AllReadyH.cons rfl (fun K hK => ?_) (AllReadyH.nil)
          obtain ⟨v6145, ews⟩ : ∃ z, z = (v514.setCell ⟨gb, 0, none⟩ (.int .i64 H)).setCell ⟨gb, 1, none⟩ (.slice (some ⟨g', 0, none⟩) R.length R.length) := ⟨_, rfl⟩
          have rf0 := (unhide HBB).frozen 0
          have rf1 := (unhide HBB).frozen 1
          have r0 := (unhide HBB).cell (i := 0) rfl
          have r1 := (unhide HBB).cell (i := 1) rfl
          have HBN : Hid (OwnV v6145 gb [.int .i64 H, .slice (some ⟨g', 0, none⟩) R.length R.length]) := by rw [ews]; exact ((unhide HBB).set 0 (.int .i64 H) (by simp)).set 1 (.slice (some ⟨g', 0, none⟩) R.length R.length) (by simp)
          have HKS : Hid (Kept (fun b => b = gb) v514 v6145) := by rw [ews]; exact ((Kept.refl (fun b => b = gb) _).setCell (p := ⟨gb, 0, none⟩) rfl _).setCell (p := ⟨gb, 1, none⟩) rfl _
          have hlv6145 := Nat.lt_of_lt_of_le hlv514 (unhide HKS).size
          have hng : g' ≠ gb := gnd_ne (unhide HN) (by rw [pilF_len]; omega) (unhide HBB)
          have hWB := unhide HW
          replace HW := hide (below_kept hWB (unhide HKS) hWB.size (fun b e => by omega))
          replace HB := hide ((unhide HB).kept (unhide HKS) (by omega))
          replace HA := hide ((unhide HA).kept (unhide HKS) (by omega))
          replace HN := hide ((unhide HN).kept (unhide HKS) hng (fun k e => e ▸ noLink_own (unhide HBB) (fun q e => by cases e)))
          have hcb : ¬ gc = gb := fun e => hbc e.symm
          have hgcw := (unhide HD0).lt
          replace HNL := hide (noLink_kept (unhide HNL) (unhide HKS) hgcw hcb)
          replace HD0 := hide ((unhide HD0).kept (unhide HKS) hcb)
          go_simp
          rw [← ews]
          clear rf0 rf1 r0 r1 hWB ews HBB HKS
          refine hK.out _ _ ⟨(unhide HB).cell (i := 0) rfl, (unhide HB).cell (i := 1) rfl⟩ (fun hHeld => ?_)
          clear hK K
          try simp only [Act.put, List.setIfInBounds_toArray, List.set_cons_zero, List.set_cons_succ]
          refine wpAnyH_take (i := 7) (v := ?_) rfl (by kernel_rfl) (by kernel_rfl) (by kernel_rfl) (fun _ _ _ h => h) (Or.inl ⟨by rfl, ?_⟩) (by assumption) ?_
          rotate_left
          · intro wy hSw
            obtain ⟨hS0, hS1⟩ := hSw
            go_simp
            try with_reducible rfl
          try simp only [Act.put, List.getElem_toArray, List.getElem_cons_succ, List.getElem_cons_zero, List.setIfInBounds_toArray, List.set_cons_zero, List.set_cons_succ]
          refine wpAnyH_take (i := 8) (v := ?_) rfl (by kernel_rfl) (by kernel_rfl) (by kernel_rfl) (fun _ _ _ h => h) (Or.inl ⟨by rfl, ?_⟩) (by assumption) ?_
          rotate_left
          · intro wy hSw
            obtain ⟨hS0, hS1⟩ := hSw
            go_simp
            try with_reducible rfl
          try simp only [Act.put, List.getElem_toArray, List.getElem_cons_succ, List.getElem_cons_zero, List.setIfInBounds_toArray, List.set_cons_zero, List.set_cons_succ]
          refine wpAnyH_done (by kernel_rfl) ?_ _
          go_wp2_with fail
          go_meet
          exact ⟨gb, g', gc, Z', rfl, rfl, rfl, hgb, hgc, hbc, HW, HA, HBN, HN, HD0, HNL⟩
        · go_simp
          obtain ⟨gb, egb⟩ : ∃ z, z = v1.heap.size := ⟨_, rfl⟩
          have hgb : g0 + 1 < gb := by rw [egb]; exact hlv1
          obtain ⟨v51, ew⟩ : ∃ z, z = v1.alloc (.cells #[.int .i64 0, .slice none 0 0] 73) := ⟨_, rfl⟩
          have hb : Below v1.heap.size v1 v51 := by rw [ew]; exact Below.alloc1 _ _
          have hlv51 := Nat.lt_of_lt_of_le hlv1 hb.size
          have HBB' : Hid (OwnV v51 gb [.int .i64 0, .slice none 0 0]) := by rw [ew, egb]; exact ownV_alloc _ _ _
          rw [← ew, ← egb]
          replace HW := hide (Below.step (unhide HW) hb)
          replace HB := hide ((unhide HB).step hb)
          replace HA := hide ((unhide HA).step hb)
          replace HN := hide ((unhide HN).below hb)
          have HBB := HBB'
          clear hb ew egb HBB'
          refine hK.out _ _ ⟨(unhide HB).cell (i := 0) rfl, (unhide HB).cell (i := 1) rfl⟩ (fun hHeld => ?_)
          clear hK K
          try simp only [Act.put, List.setIfInBounds_toArray, List.set_cons_zero, List.set_cons_succ]
          refine wpAnyH_ready (rs := [4, 6]) (by kernel_rfl) (by simp) ?_
          refine AllReadyH.cons rfl (fun K hK => ?_) (AllReadyH.cons rfl (fun K hK => ?_) (AllReadyH.nil))
          · go_simp
            obtain ⟨gc, egc⟩ : ∃ z, z = v51.heap.size := ⟨_, rfl⟩
            have hgc : g0 + 1 < gc := by rw [egc]; exact hlv51
            have hbc : gb ≠ gc := by have h1 := (unhide HBB).lt; omega
            obtain ⟨v415, ew⟩ : ∃ z, z = v51.alloc (.cells (madeCells #[.int .i64 0] L.length) 3) := ⟨_, rfl⟩
            have hb : Below v51.heap.size v51 v415 := by rw [ew]; exact Below.alloc1 _ _
            have hlv415 := Nat.lt_of_lt_of_le hlv51 hb.size
            have HD0' : Hid (OwnV v415 gc (ints (List.replicate L.length 0))) := by rw [ew, egc, ← made_ints]; exact ownV_alloc _ _ _
            have HNL' : Hid (NoLink v415 gc) := by rw [ew, egc]; exact noLink_made _ _ _
            rw [← ew, ← egc]
            replace HW := hide (Below.step (unhide HW) hb)
            replace HB := hide ((unhide HB).step hb)
            replace HA := hide ((unhide HA).step hb)
            replace HN := hide ((unhide HN).below hb)
            replace HBB := hide ((unhide HBB).step hb)
            have HD0 := HD0'
            have HNL := HNL'
            clear hb ew egc HD0' HNL'
            refine hK.out _ _ ⟨(unhide HB).cell (i := 0) rfl, (unhide HB).cell (i := 1) rfl⟩ (fun hHeld => ?_)
            clear hK K
            try simp only [Act.put, List.setIfInBounds_toArray, List.set_cons_zero, List.set_cons_succ]
            refine wpAnyH_ready (rs := [6]) (by kernel_rfl) (by simp) ?_
            refine AllReadyH.cons rfl (fun K hK => ?_) (AllReadyH.nil)
            obtain ⟨v6154, ews⟩ : ∃ z, z = (v415.setCell ⟨gb, 0, none⟩ (.int .i64 H)).setCell ⟨gb, 1, none⟩ (.slice (some ⟨g', 0, none⟩) R.length R.length) := ⟨_, rfl⟩
            have rf0 := (unhide HBB).frozen 0
            have rf1 := (unhide HBB).frozen 1
            have r0 := (unhide HBB).cell (i := 0) rfl
            have r1 := (unhide HBB).cell (i := 1) rfl
            have HBN : Hid (OwnV v6154 gb [.int .i64 H, .slice (some ⟨g', 0, none⟩) R.length R.length]) := by rw [ews]; exact ((unhide HBB).set 0 (.int .i64 H) (by simp)).set 1 (.slice (some ⟨g', 0, none⟩) R.length R.length) (by simp)
            have HKS : Hid (Kept (fun b => b = gb) v415 v6154) := by rw [ews]; exact ((Kept.refl (fun b => b = gb) _).setCell (p := ⟨gb, 0, none⟩) rfl _).setCell (p := ⟨gb, 1, none⟩) rfl _
            have hlv6154 := Nat.lt_of_lt_of_le hlv415 (unhide HKS).size
            have hng : g' ≠ gb := gnd_ne (unhide HN) (by rw [pilF_len]; omega) (unhide HBB)
            have hWB := unhide HW
            replace HW := hide (below_kept hWB (unhide HKS) hWB.size (fun b e => by omega))
            replace HB := hide ((unhide HB).kept (unhide HKS) (by omega))
            replace HA := hide ((unhide HA).kept (unhide HKS) (by omega))
            replace HN := hide ((unhide HN).kept (unhide HKS) hng (fun k e => e ▸ noLink_own (unhide HBB) (fun q e => by cases e)))
            have hcb : ¬ gc = gb := fun e => hbc e.symm
            have hgcw := (unhide HD0).lt
            replace HNL := hide (noLink_kept (unhide HNL) (unhide HKS) hgcw hcb)
            replace HD0 := hide ((unhide HD0).kept (unhide HKS) hcb)
            go_simp
            rw [← ews]
            clear rf0 rf1 r0 r1 hWB ews HBB HKS
            refine hK.out _ _ ⟨(unhide HB).cell (i := 0) rfl, (unhide HB).cell (i := 1) rfl⟩ (fun hHeld => ?_)
            clear hK K
            try simp only [Act.put, List.setIfInBounds_toArray, List.set_cons_zero, List.set_cons_succ]
            refine wpAnyH_take (i := 7) (v := ?_) rfl (by kernel_rfl) (by kernel_rfl) (by kernel_rfl) (fun _ _ _ h => h) (Or.inl ⟨by rfl, ?_⟩) (by assumption) ?_
            rotate_left
            · intro wy hSw
              obtain ⟨hS0, hS1⟩ := hSw
              go_simp
              try with_reducible rfl
            try simp only [Act.put, List.getElem_toArray, List.getElem_cons_succ, List.getElem_cons_zero, List.setIfInBounds_toArray, List.set_cons_zero, List.set_cons_succ]
            refine wpAnyH_take (i := 8) (v := ?_) rfl (by kernel_rfl) (by kernel_rfl) (by kernel_rfl) (fun _ _ _ h => h) (Or.inl ⟨by rfl, ?_⟩) (by assumption) ?_
            rotate_left
            · intro wy hSw
              obtain ⟨hS0, hS1⟩ := hSw
              go_simp
              try with_reducible rfl
            try simp only [Act.put, List.getElem_toArray, List.getElem_cons_succ, List.getElem_cons_zero, List.setIfInBounds_toArray, List.set_cons_zero, List.set_cons_succ]
            refine wpAnyH_done (by kernel_rfl) ?_ _
            go_wp2_with fail
            go_meet
            exact ⟨gb, g', gc, Z', rfl, rfl, rfl, hgb, hgc, hbc, HW, HA, HBN, HN, HD0, HNL⟩
          · obtain ⟨v615, ews⟩ : ∃ z, z = (v51.setCell ⟨gb, 0, none⟩ (.int .i64 H)).setCell ⟨gb, 1, none⟩ (.slice (some ⟨g', 0, none⟩) R.length R.length) := ⟨_, rfl⟩
            have rf0 := (unhide HBB).frozen 0
            have rf1 := (unhide HBB).frozen 1
            have r0 := (unhide HBB).cell (i := 0) rfl
            have r1 := (unhide HBB).cell (i := 1) rfl
            have HBN : Hid (OwnV v615 gb [.int .i64 H, .slice (some ⟨g', 0, none⟩) R.length R.length]) := by rw [ews]; exact ((unhide HBB).set 0 (.int .i64 H) (by simp)).set 1 (.slice (some ⟨g', 0, none⟩) R.length R.length) (by simp)
            have HKS : Hid (Kept (fun b => b = gb) v51 v615) := by rw [ews]; exact ((Kept.refl (fun b => b = gb) _).setCell (p := ⟨gb, 0, none⟩) rfl _).setCell (p := ⟨gb, 1, none⟩) rfl _
            have hlv615 := Nat.lt_of_lt_of_le hlv51 (unhide HKS).size
            have hng : g' ≠ gb := gnd_ne (unhide HN) (by rw [pilF_len]; omega) (unhide HBB)
            have hWB := unhide HW
            replace HW := hide (below_kept hWB (unhide HKS) hWB.size (fun b e => by omega))
            replace HB := hide ((unhide HB).kept (unhide HKS) (by omega))
            replace HA := hide ((unhide HA).kept (unhide HKS) (by omega))
            replace HN := hide ((unhide HN).kept (unhide HKS) hng (fun k e => e ▸ noLink_own (unhide HBB) (fun q e => by cases e)))
            go_simp
            rw [← ews]
            clear rf0 rf1 r0 r1 hWB ews HBB HKS
            refine hK.out _ _ ⟨(unhide HB).cell (i := 0) rfl, (unhide HB).cell (i := 1) rfl⟩ (fun hHeld => ?_)
            clear hK K
            try simp only [Act.put, List.setIfInBounds_toArray, List.set_cons_zero, List.set_cons_succ]
            refine wpAnyH_ready (rs := [4]) (by kernel_rfl) (by simp) ?_
            refine AllReadyH.cons rfl (fun K hK => ?_) (AllReadyH.nil)
            go_simp
            obtain ⟨gc, egc⟩ : ∃ z, z = v615.heap.size := ⟨_, rfl⟩
            have hgc : g0 + 1 < gc := by rw [egc]; exact hlv615
            have hbc : gb ≠ gc := by have h1 := (unhide HBN).lt; omega
            obtain ⟨v4156, ew⟩ : ∃ z, z = v615.alloc (.cells (madeCells #[.int .i64 0] L.length) 3) := ⟨_, rfl⟩
            have hb : Below v615.heap.size v615 v4156 := by rw [ew]; exact Below.alloc1 _ _
            have hlv4156 := Nat.lt_of_lt_of_le hlv615 hb.size
            have HD0' : Hid (OwnV v4156 gc (ints (List.replicate L.length 0))) := by rw [ew, egc, ← made_ints]; exact ownV_alloc _ _ _
            have HNL' : Hid (NoLink v4156 gc) := by rw [ew, egc]; exact noLink_made _ _ _
            rw [← ew, ← egc]
            replace HW := hide (Below.step (unhide HW) hb)
            replace HB := hide ((unhide HB).step hb)
            replace HA := hide ((unhide HA).step hb)
            replace HN := hide ((unhide HN).below hb)
            replace HBN := hide ((unhide HBN).step hb)
            have HD0 := HD0'
            have HNL := HNL'
            clear hb ew egc HD0' HNL'
            refine hK.out _ _ ⟨(unhide HB).cell (i := 0) rfl, (unhide HB).cell (i := 1) rfl⟩ (fun hHeld => ?_)
            clear hK K
            try simp only [Act.put, List.setIfInBounds_toArray, List.set_cons_zero, List.set_cons_succ]
            refine wpAnyH_take (i := 7) (v := ?_) rfl (by kernel_rfl) (by kernel_rfl) (by kernel_rfl) (fun _ _ _ h => h) (Or.inl ⟨by rfl, ?_⟩) (by assumption) ?_
            rotate_left
            · intro wy hSw
              obtain ⟨hS0, hS1⟩ := hSw
              go_simp
              try with_reducible rfl
            try simp only [Act.put, List.getElem_toArray, List.getElem_cons_succ, List.getElem_cons_zero, List.setIfInBounds_toArray, List.set_cons_zero, List.set_cons_succ]
            refine wpAnyH_take (i := 8) (v := ?_) rfl (by kernel_rfl) (by kernel_rfl) (by kernel_rfl) (fun _ _ _ h => h) (Or.inl ⟨by rfl, ?_⟩) (by assumption) ?_
            rotate_left
            · intro wy hSw
              obtain ⟨hS0, hS1⟩ := hSw
              go_simp
              try with_reducible rfl
            try simp only [Act.put, List.getElem_toArray, List.getElem_cons_succ, List.getElem_cons_zero, List.setIfInBounds_toArray, List.set_cons_zero, List.set_cons_succ]
            refine wpAnyH_done (by kernel_rfl) ?_ _
            go_wp2_with fail
            go_meet
            exact ⟨gb, g', gc, Z', rfl, rfl, rfl, hgb, hgc, hbc, HW, HA, HBN, HN, HD0, HNL⟩
      · go_simp
        obtain ⟨gc, egc⟩ : ∃ z, z = wd.heap.size := ⟨_, rfl⟩
        have hgc : g0 + 1 < gc := by rw [egc]; exact hlwd
        obtain ⟨v4, ew⟩ : ∃ z, z = wd.alloc (.cells (madeCells #[.int .i64 0] L.length) 3) := ⟨_, rfl⟩
        have hb : Below wd.heap.size wd v4 := by rw [ew]; exact Below.alloc1 _ _
        have hlv4 := Nat.lt_of_lt_of_le hlwd hb.size
        have HD0' : Hid (OwnV v4 gc (ints (List.replicate L.length 0))) := by rw [ew, egc, ← made_ints]; exact ownV_alloc _ _ _
        have HNL' : Hid (NoLink v4 gc) := by rw [ew, egc]; exact noLink_made _ _ _
        rw [← ew, ← egc]
        replace HW := hide (Below.step (unhide HW) hb)
        replace HB := hide ((unhide HB).step hb)
        replace HA := hide ((unhide HA).step hb)
        have HD0 := HD0'
        have HNL := HNL'
        clear hb ew egc HD0' HNL'
        refine hK.out _ _ ⟨(unhide HB).cell (i := 0) rfl, (unhide HB).cell (i := 1) rfl⟩ (fun hHeld => ?_)
        clear hK K
        try simp only [Act.put, List.setIfInBounds_toArray, List.set_cons_zero, List.set_cons_succ]
        refine wpAnyH_ready (rs := [1, 5]) (by kernel_rfl) (by simp) ?_
        refine AllReadyH.cons rfl (fun K hK => ?_) (AllReadyH.cons rfl (fun K hK => ?_) (AllReadyH.nil))
        · go_simp
          have HCQ := hide (unhide HBG (unhide HY) v4 (unhide HW))
          refine (unhide HCQ).mono ?_
          rintro e v14 ⟨g', Z', rfl, hg1, hG1, hb⟩
          have hlv14 := Nat.lt_of_lt_of_le hlv4 hb.size
          replace HW := hide (Below.step (unhide HW) hb)
          replace HB := hide ((unhide HB).step hb)
          replace HA := hide ((unhide HA).step hb)
          have hgcw := (unhide HD0).lt
          replace HNL := hide (noLink_kept (T := fun _ => False) (unhide HNL) (kept_of_below hb) hgcw id)
          clear hgcw
          replace HD0 := hide ((unhide HD0).step hb)
          have HN := hide hG1
          clear hG1 hb HCQ
          refine hK.out _ _ ⟨(unhide HB).cell (i := 0) rfl, (unhide HB).cell (i := 1) rfl⟩ (fun hHeld => ?_)
          clear hK K
          try simp only [Act.put, List.setIfInBounds_toArray, List.set_cons_zero, List.set_cons_succ]
          refine wpAnyH_ready (rs := [5]) (by kernel_rfl) (by simp) ?_
          refine AllReadyH.cons rfl (fun K hK => ?_) (AllReadyH.nil)
          go_simp
          obtain ⟨gb, egb⟩ : ∃ z, z = v14.heap.size := ⟨_, rfl⟩
          have hgb : g0 + 1 < gb := by rw [egb]; exact hlv14
          have hbc : gb ≠ gc := by have h1 := (unhide HD0).lt; omega
          obtain ⟨v541, ew⟩ : ∃ z, z = v14.alloc (.cells #[.int .i64 0, .slice none 0 0] 73) := ⟨_, rfl⟩
          have hb : Below v14.heap.size v14 v541 := by rw [ew]; exact Below.alloc1 _ _
          have hlv541 := Nat.lt_of_lt_of_le hlv14 hb.size
          have HBB' : Hid (OwnV v541 gb [.int .i64 0, .slice none 0 0]) := by rw [ew, egb]; exact ownV_alloc _ _ _
          rw [← ew, ← egb]
          replace HW := hide (Below.step (unhide HW) hb)
          replace HB := hide ((unhide HB).step hb)
          replace HA := hide ((unhide HA).step hb)
          replace HN := hide ((unhide HN).below hb)
          have hgcw := (unhide HD0).lt
          replace HNL := hide (noLink_kept (T := fun _ => False) (unhide HNL) (kept_of_below hb) hgcw id)
          clear hgcw
          replace HD0 := hide ((unhide HD0).step hb)
          have HBB := HBB'
          clear hb ew egb HBB'
          refine hK.out _ _ ⟨(unhide HB).cell (i := 0) rfl, (unhide HB).cell (i := 1) rfl⟩ (fun hHeld => ?_)
          clear hK K
          try simp only [Act.put, List.setIfInBounds_toArray, List.set_cons_zero, List.set_cons_succ]
          refine wpAnyH_ready (rs := [6]) (by kernel_rfl) (by simp) ?_
          refine AllReadyH.cons rfl (fun K hK => ?_) (AllReadyH.nil)
          obtain ⟨v6415, ews⟩ : ∃ z, z = (v541.setCell ⟨gb, 0, none⟩ (.int .i64 H)).setCell ⟨gb, 1, none⟩ (.slice (some ⟨g', 0, none⟩) R.length R.length) := ⟨_, rfl⟩
          have rf0 := (unhide HBB).frozen 0
          have rf1 := (unhide HBB).frozen 1
          have r0 := (unhide HBB).cell (i := 0) rfl
          have r1 := (unhide HBB).cell (i := 1) rfl
          have HBN : Hid (OwnV v6415 gb [.int .i64 H, .slice (some ⟨g', 0, none⟩) R.length R.length]) := by rw [ews]; exact ((unhide HBB).set 0 (.int .i64 H) (by simp)).set 1 (.slice (some ⟨g', 0, none⟩) R.length R.length) (by simp)
          have HKS : Hid (Kept (fun b => b = gb) v541 v6415) := by rw [ews]; exact ((Kept.refl (fun b => b = gb) _).setCell (p := ⟨gb, 0, none⟩) rfl _).setCell (p := ⟨gb, 1, none⟩) rfl _
          have hlv6415 := Nat.lt_of_lt_of_le hlv541 (unhide HKS).size
          have hng : g' ≠ gb := gnd_ne (unhide HN) (by rw [pilF_len]; omega) (unhide HBB)
          have hWB := unhide HW
          replace HW := hide (below_kept hWB (unhide HKS) hWB.size (fun b e => by omega))
          replace HB := hide ((unhide HB).kept (unhide HKS) (by omega))
          replace HA := hide ((unhide HA).kept (unhide HKS) (by omega))
          replace HN := hide ((unhide HN).kept (unhide HKS) hng (fun k e => e ▸ noLink_own (unhide HBB) (fun q e => by cases e)))
          have hcb : ¬ gc = gb := fun e => hbc e.symm
          have hgcw := (unhide HD0).lt
          replace HNL := hide (noLink_kept (unhide HNL) (unhide HKS) hgcw hcb)
          replace HD0 := hide ((unhide HD0).kept (unhide HKS) hcb)
          go_simp
          rw [← ews]
          clear rf0 rf1 r0 r1 hWB ews HBB HKS
          refine hK.out _ _ ⟨(unhide HB).cell (i := 0) rfl, (unhide HB).cell (i := 1) rfl⟩ (fun hHeld => ?_)
          clear hK K
          try simp only [Act.put, List.setIfInBounds_toArray, List.set_cons_zero, List.set_cons_succ]
          refine wpAnyH_take (i := 7) (v := ?_) rfl (by kernel_rfl) (by kernel_rfl) (by kernel_rfl) (fun _ _ _ h => h) (Or.inl ⟨by rfl, ?_⟩) (by assumption) ?_
          rotate_left
          · intro wy hSw
            obtain ⟨hS0, hS1⟩ := hSw
            go_simp
            try with_reducible rfl
          try simp only [Act.put, List.getElem_toArray, List.getElem_cons_succ, List.getElem_cons_zero, List.setIfInBounds_toArray, List.set_cons_zero, List.set_cons_succ]
          refine wpAnyH_take (i := 8) (v := ?_) rfl (by kernel_rfl) (by kernel_rfl) (by kernel_rfl) (fun _ _ _ h => h) (Or.inl ⟨by rfl, ?_⟩) (by assumption) ?_
          rotate_left
          · intro wy hSw
            obtain ⟨hS0, hS1⟩ := hSw
            go_simp
            try with_reducible rfl
          try simp only [Act.put, List.getElem_toArray, List.getElem_cons_succ, List.getElem_cons_zero, List.setIfInBounds_toArray, List.set_cons_zero, List.set_cons_succ]
          refine wpAnyH_done (by kernel_rfl) ?_ _
          go_wp2_with fail
          go_meet
          exact ⟨gb, g', gc, Z', rfl, rfl, rfl, hgb, hgc, hbc, HW, HA, HBN, HN, HD0, HNL⟩
        · go_simp
          obtain ⟨gb, egb⟩ : ∃ z, z = v4.heap.size := ⟨_, rfl⟩
          have hgb : g0 + 1 < gb := by rw [egb]; exact hlv4
          have hbc : gb ≠ gc := by have h1 := (unhide HD0).lt; omega
          obtain ⟨v54, ew⟩ : ∃ z, z = v4.alloc (.cells #[.int .i64 0, .slice none 0 0] 73) := ⟨_, rfl⟩
          have hb : Below v4.heap.size v4 v54 := by rw [ew]; exact Below.alloc1 _ _
          have hlv54 := Nat.lt_of_lt_of_le hlv4 hb.size
          have HBB' : Hid (OwnV v54 gb [.int .i64 0, .slice none 0 0]) := by rw [ew, egb]; exact ownV_alloc _ _ _
          rw [← ew, ← egb]
          replace HW := hide (Below.step (unhide HW) hb)
          replace HB := hide ((unhide HB).step hb)
          replace HA := hide ((unhide HA).step hb)
          have hgcw := (unhide HD0).lt
          replace HNL := hide (noLink_kept (T := fun _ => False) (unhide HNL) (kept_of_below hb) hgcw id)
          clear hgcw
          replace HD0 := hide ((unhide HD0).step hb)
          have HBB := HBB'
          clear hb ew egb HBB'
          refine hK.out _ _ ⟨(unhide HB).cell (i := 0) rfl, (unhide HB).cell (i := 1) rfl⟩ (fun hHeld => ?_)
          clear hK K
          try simp only [Act.put, List.setIfInBounds_toArray, List.set_cons_zero, List.set_cons_succ]
          refine wpAnyH_ready (rs := [1]) (by kernel_rfl) (by simp) ?_
          refine AllReadyH.cons rfl (fun K hK => ?_) (AllReadyH.nil)
          go_simp
          have HCQ := hide (unhide HBG (unhide HY) v54 (unhide HW))
          refine (unhide HCQ).mono ?_
          rintro e v145 ⟨g', Z', rfl, hg1, hG1, hb⟩
          have hlv145 := Nat.lt_of_lt_of_le hlv54 hb.size
          replace HW := hide (Below.step (unhide HW) hb)
          replace HB := hide ((unhide HB).step hb)
          replace HA := hide ((unhide HA).step hb)
          have hgcw := (unhide HD0).lt
          replace HNL := hide (noLink_kept (T := fun _ => False) (unhide HNL) (kept_of_below hb) hgcw id)
          clear hgcw
          replace HD0 := hide ((unhide HD0).step hb)
          replace HBB := hide ((unhide HBB).step hb)
          have HN := hide hG1
          clear hG1 hb HCQ
          refine hK.out _ _ ⟨(unhide HB).cell (i := 0) rfl, (unhide HB).cell (i := 1) rfl⟩ (fun hHeld => ?_)
          clear hK K
          try simp only [Act.put, List.setIfInBounds_toArray, List.set_cons_zero, List.set_cons_succ]
          refine wpAnyH_ready (rs := [6]) (by kernel_rfl) (by simp) ?_
          refine AllReadyH.cons rfl (fun K hK => ?_) (AllReadyH.nil)
          obtain ⟨v6451, ews⟩ : ∃ z, z = (v145.setCell ⟨gb, 0, none⟩ (.int .i64 H)).setCell ⟨gb, 1, none⟩ (.slice (some ⟨g', 0, none⟩) R.length R.length) := ⟨_, rfl⟩
          have rf0 := (unhide HBB).frozen 0
          have rf1 := (unhide HBB).frozen 1
          have r0 := (unhide HBB).cell (i := 0) rfl
          have r1 := (unhide HBB).cell (i := 1) rfl
          have HBN : Hid (OwnV v6451 gb [.int .i64 H, .slice (some ⟨g', 0, none⟩) R.length R.length]) := by rw [ews]; exact ((unhide HBB).set 0 (.int .i64 H) (by simp)).set 1 (.slice (some ⟨g', 0, none⟩) R.length R.length) (by simp)
          have HKS : Hid (Kept (fun b => b = gb) v145 v6451) := by rw [ews]; exact ((Kept.refl (fun b => b = gb) _).setCell (p := ⟨gb, 0, none⟩) rfl _).setCell (p := ⟨gb, 1, none⟩) rfl _
          have hlv6451 := Nat.lt_of_lt_of_le hlv145 (unhide HKS).size
          have hng : g' ≠ gb := gnd_ne (unhide HN) (by rw [pilF_len]; omega) (unhide HBB)
          have hWB := unhide HW
          replace HW := hide (below_kept hWB (unhide HKS) hWB.size (fun b e => by omega))
          replace HB := hide ((unhide HB).kept (unhide HKS) (by omega))
          replace HA := hide ((unhide HA).kept (unhide HKS) (by omega))
          replace HN := hide ((unhide HN).kept (unhide HKS) hng (fun k e => e ▸ noLink_own (unhide HBB) (fun q e => by cases e)))
          have hcb : ¬ gc = gb := fun e => hbc e.symm
          have hgcw := (unhide HD0).lt
          replace HNL := hide (noLink_kept (unhide HNL) (unhide HKS) hgcw hcb)
          replace HD0 := hide ((unhide HD0).kept (unhide HKS) hcb)
          go_simp
          rw [← ews]
          clear rf0 rf1 r0 r1 hWB ews HBB HKS
          refine hK.out _ _ ⟨(unhide HB).cell (i := 0) rfl, (unhide HB).cell (i := 1) rfl⟩ (fun hHeld => ?_)
          clear hK K
          try simp only [Act.put, List.setIfInBounds_toArray, List.set_cons_zero, List.set_cons_succ]
          refine wpAnyH_take (i := 7) (v := ?_) rfl (by kernel_rfl) (by kernel_rfl) (by kernel_rfl) (fun _ _ _ h => h) (Or.inl ⟨by rfl, ?_⟩) (by assumption) ?_
          rotate_left
          · intro wy hSw
            obtain ⟨hS0, hS1⟩ := hSw
            go_simp
            try with_reducible rfl
          try simp only [Act.put, List.getElem_toArray, List.getElem_cons_succ, List.getElem_cons_zero, List.setIfInBounds_toArray, List.set_cons_zero, List.set_cons_succ]
          refine wpAnyH_take (i := 8) (v := ?_) rfl (by kernel_rfl) (by kernel_rfl) (by kernel_rfl) (fun _ _ _ h => h) (Or.inl ⟨by rfl, ?_⟩) (by assumption) ?_
          rotate_left
          · intro wy hSw
            obtain ⟨hS0, hS1⟩ := hSw
            go_simp
            try with_reducible rfl
          try simp only [Act.put, List.getElem_toArray, List.getElem_cons_succ, List.getElem_cons_zero, List.setIfInBounds_toArray, List.set_cons_zero, List.set_cons_succ]
          refine wpAnyH_done (by kernel_rfl) ?_ _
          go_wp2_with fail
          go_meet
          exact ⟨gb, g', gc, Z', rfl, rfl, rfl, hgb, hgc, hbc, HW, HA, HBN, HN, HD0, HNL⟩
      · go_simp
        obtain ⟨gb, egb⟩ : ∃ z, z = wd.heap.size := ⟨_, rfl⟩
        have hgb : g0 + 1 < gb := by rw [egb]; exact hlwd
        obtain ⟨v5, ew⟩ : ∃ z, z = wd.alloc (.cells #[.int .i64 0, .slice none 0 0] 73) := ⟨_, rfl⟩
        have hb : Below wd.heap.size wd v5 := by rw [ew]; exact Below.alloc1 _ _
        have hlv5 := Nat.lt_of_lt_of_le hlwd hb.size
        have HBB' : Hid (OwnV v5 gb [.int .i64 0, .slice none 0 0]) := by rw [ew, egb]; exact ownV_alloc _ _ _
        rw [← ew, ← egb]
        replace HW := hide (Below.step (unhide HW) hb)
        replace HB := hide ((unhide HB).step hb)
        replace HA := hide ((unhide HA).step hb)
        have HBB := HBB'
        clear hb ew egb HBB'
        refine hK.out _ _ ⟨(unhide HB).cell (i := 0) rfl, (unhide HB).cell (i := 1) rfl⟩ (fun hHeld => ?_)
        clear hK K
        try simp only [Act.put, List.setIfInBounds_toArray, List.set_cons_zero, List.set_cons_succ]
        refine wpAnyH_ready (rs := [1, 4]) (by kernel_rfl) (by simp) ?_
        refine AllReadyH.cons rfl (fun K hK => ?_) (AllReadyH.cons rfl (fun K hK => ?_) (AllReadyH.nil))
        · go_simp
          have HCQ := hide (unhide HBG (unhide HY) v5 (unhide HW))
          refine (unhide HCQ).mono ?_
          rintro e v15 ⟨g', Z', rfl, hg1, hG1, hb⟩
          have hlv15 := Nat.lt_of_lt_of_le hlv5 hb.size
          replace HW := hide (Below.step (unhide HW) hb)
          replace HB := hide ((unhide HB).step hb)
          replace HA := hide ((unhide HA).step hb)
          replace HBB := hide ((unhide HBB).step hb)
          have HN := hide hG1
          clear hG1 hb HCQ
          refine hK.out _ _ ⟨(unhide HB).cell (i := 0) rfl, (unhide HB).cell (i := 1) rfl⟩ (fun hHeld => ?_)
          clear hK K
          try simp only [Act.put, List.setIfInBounds_toArray, List.set_cons_zero, List.set_cons_succ]
          refine wpAnyH_ready (rs := [4, 6]) (by kernel_rfl) (by simp) ?_
          refine AllReadyH.cons rfl (fun K hK => ?_) (AllReadyH.cons rfl (fun K hK => ?_) (AllReadyH.nil))
          · go_simp
            obtain ⟨gc, egc⟩ : ∃ z, z = v15.heap.size := ⟨_, rfl⟩
            have hgc : g0 + 1 < gc := by rw [egc]; exact hlv15
            have hbc : gb ≠ gc := by have h1 := (unhide HBB).lt; omega
            obtain ⟨v451, ew⟩ : ∃ z, z = v15.alloc (.cells (madeCells #[.int .i64 0] L.length) 3) := ⟨_, rfl⟩
            have hb : Below v15.heap.size v15 v451 := by rw [ew]; exact Below.alloc1 _ _
            have hlv451 := Nat.lt_of_lt_of_le hlv15 hb.size
            have HD0' : Hid (OwnV v451 gc (ints (List.replicate L.length 0))) := by rw [ew, egc, ← made_ints]; exact ownV_alloc _ _ _
            have HNL' : Hid (NoLink v451 gc) := by rw [ew, egc]; exact noLink_made _ _ _
            rw [← ew, ← egc]
            replace HW := hide (Below.step (unhide HW) hb)
            replace HB := hide ((unhide HB).step hb)
            replace HA := hide ((unhide HA).step hb)
            replace HN := hide ((unhide HN).below hb)
            replace HBB := hide ((unhide HBB).step hb)
            have HD0 := HD0'
            have HNL := HNL'
            clear hb ew egc HD0' HNL'
            refine hK.out _ _ ⟨(unhide HB).cell (i := 0) rfl, (unhide HB).cell (i := 1) rfl⟩ (fun hHeld => ?_)
            clear hK K
            try simp only [Act.put, List.setIfInBounds_toArray, List.set_cons_zero, List.set_cons_succ]
            refine wpAnyH_ready (rs := [6]) (by kernel_rfl) (by simp) ?_
            refine AllReadyH.cons rfl (fun K hK => ?_) (AllReadyH.nil)
            obtain ⟨v6514, ews⟩ : ∃ z, z = (v451.setCell ⟨gb, 0, none⟩ (.int .i64 H)).setCell ⟨gb, 1, none⟩ (.slice (some ⟨g', 0, none⟩) R.length R.length) := ⟨_, rfl⟩
            have rf0 := (unhide HBB).frozen 0
            have rf1 := (unhide HBB).frozen 1
            have r0 := (unhide HBB).cell (i := 0) rfl
            have r1 := (unhide HBB).cell (i := 1) rfl
            have HBN : Hid (OwnV v6514 gb [.int .i64 H, .slice (some ⟨g', 0, none⟩) R.length R.length]) := by rw [ews]; exact ((unhide HBB).set 0 (.int .i64 H) (by simp)).set 1 (.slice (some ⟨g', 0, none⟩) R.length R.length) (by simp)
            have HKS : Hid (Kept (fun b => b = gb) v451 v6514) := by rw [ews]; exact ((Kept.refl (fun b => b = gb) _).setCell (p := ⟨gb, 0, none⟩) rfl _).setCell (p := ⟨gb, 1, none⟩) rfl _
            have hlv6514 := Nat.lt_of_lt_of_le hlv451 (unhide HKS).size
            have hng : g' ≠ gb := gnd_ne (unhide HN) (by rw [pilF_len]; omega) (unhide HBB)
            have hWB := unhide HW
            replace HW := hide (below_kept hWB (unhide HKS) hWB.size (fun b e => by omega))
            replace HB := hide ((unhide HB).kept (unhide HKS) (by omega))
            replace HA := hide ((unhide HA).kept (unhide HKS) (by omega))
            replace HN := hide ((unhide HN).kept (unhide HKS) hng (fun k e => e ▸ noLink_own (unhide HBB) (fun q e => by cases e)))
            have hcb : ¬ gc = gb := fun e => hbc e.symm
            have hgcw := (unhide HD0).lt
            replace HNL := hide (noLink_kept (unhide HNL) (unhide HKS) hgcw hcb)
            replace HD0 := hide ((unhide HD0).kept (unhide HKS) hcb)
            go_simp
            rw [← ews]
            clear rf0 rf1 r0 r1 hWB ews HBB HKS
            refine hK.out _ _ ⟨(unhide HB).cell (i := 0) rfl, (unhide HB).cell (i := 1) rfl⟩ (fun hHeld => ?_)
            clear hK K
            try simp only [Act.put, List.setIfInBounds_toArray, List.set_cons_zero, List.set_cons_succ]
            refine wpAnyH_take (i := 7) (v := ?_) rfl (by kernel_rfl) (by kernel_rfl) (by kernel_rfl) (fun _ _ _ h => h) (Or.inl ⟨by rfl, ?_⟩) (by assumption) ?_
            rotate_left
            · intro wy hSw
              obtain ⟨hS0, hS1⟩ := hSw
              go_simp
              try with_reducible rfl
            try simp only [Act.put, List.getElem_toArray, List.getElem_cons_succ, List.getElem_cons_zero, List.setIfInBounds_toArray, List.set_cons_zero, List.set_cons_succ]
            refine wpAnyH_take (i := 8) (v := ?_) rfl (by kernel_rfl) (by kernel_rfl) (by kernel_rfl) (fun _ _ _ h => h) (Or.inl ⟨by rfl, ?_⟩) (by assumption) ?_
            rotate_left
            · intro wy hSw
              obtain ⟨hS0, hS1⟩ := hSw
              go_simp
              try with_reducible rfl
            try simp only [Act.put, List.getElem_toArray, List.getElem_cons_succ, List.getElem_cons_zero, List.setIfInBounds_toArray, List.set_cons_zero, List.set_cons_succ]
            refine wpAnyH_done (by kernel_rfl) ?_ _
            go_wp2_with fail
            go_meet
            exact ⟨gb, g', gc, Z', rfl, rfl, rfl, hgb, hgc, hbc, HW, HA, HBN, HN, HD0, HNL⟩
          · obtain ⟨v651, ews⟩ : ∃ z, z = (v15.setCell ⟨gb, 0, none⟩ (.int .i64 H)).setCell ⟨gb, 1, none⟩ (.slice (some ⟨g', 0, none⟩) R.length R.length) := ⟨_, rfl⟩
            have rf0 := (unhide HBB).frozen 0
            have rf1 := (unhide HBB).frozen 1
            have r0 := (unhide HBB).cell (i := 0) rfl
            have r1 := (unhide HBB).cell (i := 1) rfl
            have HBN : Hid (OwnV v651 gb [.int .i64 H, .slice (some ⟨g', 0, none⟩) R.length R.length]) := by rw [ews]; exact ((unhide HBB).set 0 (.int .i64 H) (by simp)).set 1 (.slice (some ⟨g', 0, none⟩) R.length R.length) (by simp)
            have HKS : Hid (Kept (fun b => b = gb) v15 v651) := by rw [ews]; exact ((Kept.refl (fun b => b = gb) _).setCell (p := ⟨gb, 0, none⟩) rfl _).setCell (p := ⟨gb, 1, none⟩) rfl _
            have hlv651 := Nat.lt_of_lt_of_le hlv15 (unhide HKS).size
            have hng : g' ≠ gb := gnd_ne (unhide HN) (by rw [pilF_len]; omega) (unhide HBB)
            have hWB := unhide HW
            replace HW := hide (below_kept hWB (unhide HKS) hWB.size (fun b e => by omega))
            replace HB := hide ((unhide HB).kept (unhide HKS) (by omega))
            replace HA := hide ((unhide HA).kept (unhide HKS) (by omega))
            replace HN := hide ((unhide HN).kept (unhide HKS) hng (fun k e => e ▸ noLink_own (unhide HBB) (fun q e => by cases e)))
            go_simp
            rw [← ews]
            clear rf0 rf1 r0 r1 hWB ews HBB HKS
            refine hK.out _ _ ⟨(unhide HB).cell (i := 0) rfl, (unhide HB).cell (i := 1) rfl⟩ (fun hHeld => ?_)
            clear hK K
            try simp only [Act.put, List.setIfInBounds_toArray, List.set_cons_zero, List.set_cons_succ]
            refine wpAnyH_ready (rs := [4]) (by kernel_rfl) (by simp) ?_
            refine AllReadyH.cons rfl (fun K hK => ?_) (AllReadyH.nil)
            go_simp
            obtain ⟨gc, egc⟩ : ∃ z, z = v651.heap.size := ⟨_, rfl⟩
            have hgc : g0 + 1 < gc := by rw [egc]; exact hlv651
            have hbc : gb ≠ gc := by have h1 := (unhide HBN).lt; omega
            obtain ⟨v4516, ew⟩ : ∃ z, z = v651.alloc (.cells (madeCells #[.int .i64 0] L.length) 3) := ⟨_, rfl⟩
            have hb : Below v651.heap.size v651 v4516 := by rw [ew]; exact Below.alloc1 _ _
            have hlv4516 := Nat.lt_of_lt_of_le hlv651 hb.size
            have HD0' : Hid (OwnV v4516 gc (ints (List.replicate L.length 0))) := by rw [ew, egc, ← made_ints]; exact ownV_alloc _ _ _
            have HNL' : Hid (NoLink v4516 gc) := by rw [ew, egc]; exact noLink_made _ _ _
            rw [← ew, ← egc]
            replace HW := hide (Below.step (unhide HW) hb)
            replace HB := hide ((unhide HB).step hb)
            replace HA := hide ((unhide HA).step hb)
            replace HN := hide ((unhide HN).below hb)
            replace HBN := hide ((unhide HBN).step hb)
            have HD0 := HD0'
            have HNL := HNL'
            clear hb ew egc HD0' HNL'
            refine hK.out _ _ ⟨(unhide HB).cell (i := 0) rfl, (unhide HB).cell (i := 1) rfl⟩ (fun hHeld => ?_)
            clear hK K
            try simp only [Act.put, List.setIfInBounds_toArray, List.set_cons_zero, List.set_cons_succ]
            refine wpAnyH_take (i := 7) (v := ?_) rfl (by kernel_rfl) (by kernel_rfl) (by kernel_rfl) (fun _ _ _ h => h) (Or.inl ⟨by rfl, ?_⟩) (by assumption) ?_
            rotate_left
            · intro wy hSw
              obtain ⟨hS0, hS1⟩ := hSw
              go_simp
              try with_reducible rfl
            try simp only [Act.put, List.getElem_toArray, List.getElem_cons_succ, List.getElem_cons_zero, List.setIfInBounds_toArray, List.set_cons_zero, List.set_cons_succ]
            refine wpAnyH_take (i := 8) (v := ?_) rfl (by kernel_rfl) (by kernel_rfl) (by kernel_rfl) (fun _ _ _ h => h) (Or.inl ⟨by rfl, ?_⟩) (by assumption) ?_
            rotate_left
            · intro wy hSw
              obtain ⟨hS0, hS1⟩ := hSw
              go_simp
              try with_reducible rfl
            try simp only [Act.put, List.getElem_toArray, List.getElem_cons_succ, List.getElem_cons_zero, List.setIfInBounds_toArray, List.set_cons_zero, List.set_cons_succ]
            refine wpAnyH_done (by kernel_rfl) ?_ _
            go_wp2_with fail
            go_meet
            exact ⟨gb, g', gc, Z', rfl, rfl, rfl, hgb, hgc, hbc, HW, HA, HBN, HN, HD0, HNL⟩
        · go_simp
          obtain ⟨gc, egc⟩ : ∃ z, z = v5.heap.size := ⟨_, rfl⟩
          have hgc : g0 + 1 < gc := by rw [egc]; exact hlv5
          have hbc : gb ≠ gc := by have h1 := (unhide HBB).lt; omega
          obtain ⟨v45, ew⟩ : ∃ z, z = v5.alloc (.cells (madeCells #[.int .i64 0] L.length) 3) := ⟨_, rfl⟩
          have hb : Below v5.heap.size v5 v45 := by rw [ew]; exact Below.alloc1 _ _
          have hlv45 := Nat.lt_of_lt_of_le hlv5 hb.size
          have HD0' : Hid (OwnV v45 gc (ints (List.replicate L.length 0))) := by rw [ew, egc, ← made_ints]; exact ownV_alloc _ _ _
          have HNL' : Hid (NoLink v45 gc) := by rw [ew, egc]; exact noLink_made _ _ _
          rw [← ew, ← egc]
          replace HW := hide (Below.step (unhide HW) hb)
          replace HB := hide ((unhide HB).step hb)
          replace HA := hide ((unhide HA).step hb)
          replace HBB := hide ((unhide HBB).step hb)
          have HD0 := HD0'
          have HNL := HNL'
          clear hb ew egc HD0' HNL'
          refine hK.out _ _ ⟨(unhide HB).cell (i := 0) rfl, (unhide HB).cell (i := 1) rfl⟩ (fun hHeld => ?_)
          clear hK K
          try simp only [Act.put, List.setIfInBounds_toArray, List.set_cons_zero, List.set_cons_succ]
          refine wpAnyH_ready (rs := [1]) (by kernel_rfl) (by simp) ?_
          refine AllReadyH.cons rfl (fun K hK => ?_) (AllReadyH.nil)
          go_simp
          have HCQ := hide (unhide HBG (unhide HY) v45 (unhide HW))
          refine (unhide HCQ).mono ?_
          rintro e v154 ⟨g', Z', rfl, hg1, hG1, hb⟩
          have hlv154 := Nat.lt_of_lt_of_le hlv45 hb.size
          replace HW := hide (Below.step (unhide HW) hb)
          replace HB := hide ((unhide HB).step hb)
          replace HA := hide ((unhide HA).step hb)
          have hgcw := (unhide HD0).lt
          replace HNL := hide (noLink_kept (T := fun _ => False) (unhide HNL) (kept_of_below hb) hgcw id)
          clear hgcw
          replace HD0 := hide ((unhide HD0).step hb)
          replace HBB := hide ((unhide HBB).step hb)
          have HN := hide hG1
          clear hG1 hb HCQ
          refine hK.out _ _ ⟨(unhide HB).cell (i := 0) rfl, (unhide HB).cell (i := 1) rfl⟩ (fun hHeld => ?_)
          clear hK K
          try simp only [Act.put, List.setIfInBounds_toArray, List.set_cons_zero, List.set_cons_succ]
          refine wpAnyH_ready (rs := [6]) (by kernel_rfl) (by simp) ?_
          refine AllReadyH.cons rfl (fun K hK => ?_) (AllReadyH.nil)
          obtain ⟨v6541, ews⟩ : ∃ z, z = (v154.setCell ⟨gb, 0, none⟩ (.int .i64 H)).setCell ⟨gb, 1, none⟩ (.slice (some ⟨g', 0, none⟩) R.length R.length) := ⟨_, rfl⟩
          have rf0 := (unhide HBB).frozen 0
          have rf1 := (unhide HBB).frozen 1
          have r0 := (unhide HBB).cell (i := 0) rfl
          have r1 := (unhide HBB).cell (i := 1) rfl
          have HBN : Hid (OwnV v6541 gb [.int .i64 H, .slice (some ⟨g', 0, none⟩) R.length R.length]) := by rw [ews]; exact ((unhide HBB).set 0 (.int .i64 H) (by simp)).set 1 (.slice (some ⟨g', 0, none⟩) R.length R.length) (by simp)
          have HKS : Hid (Kept (fun b => b = gb) v154 v6541) := by rw [ews]; exact ((Kept.refl (fun b => b = gb) _).setCell (p := ⟨gb, 0, none⟩) rfl _).setCell (p := ⟨gb, 1, none⟩) rfl _
          have hlv6541 := Nat.lt_of_lt_of_le hlv154 (unhide HKS).size
          have hng : g' ≠ gb := gnd_ne (unhide HN) (by rw [pilF_len]; omega) (unhide HBB)
          have hWB := unhide HW
          replace HW := hide (below_kept hWB (unhide HKS) hWB.size (fun b e => by omega))
          replace HB := hide ((unhide HB).kept (unhide HKS) (by omega))
          replace HA := hide ((unhide HA).kept (unhide HKS) (by omega))
          replace HN := hide ((unhide HN).kept (unhide HKS) hng (fun k e => e ▸ noLink_own (unhide HBB) (fun q e => by cases e)))
          have hcb : ¬ gc = gb := fun e => hbc e.symm
          have hgcw := (unhide HD0).lt
          replace HNL := hide (noLink_kept (unhide HNL) (unhide HKS) hgcw hcb)
          replace HD0 := hide ((unhide HD0).kept (unhide HKS) hcb)
          go_simp
          rw [← ews]
          clear rf0 rf1 r0 r1 hWB ews HBB HKS
          refine hK.out _ _ ⟨(unhide HB).cell (i := 0) rfl, (unhide HB).cell (i := 1) rfl⟩ (fun hHeld => ?_)
          clear hK K
          try simp only [Act.put, List.setIfInBounds_toArray, List.set_cons_zero, List.set_cons_succ]
          refine wpAnyH_take (i := 7) (v := ?_) rfl (by kernel_rfl) (by kernel_rfl) (by kernel_rfl) (fun _ _ _ h => h) (Or.inl ⟨by rfl, ?_⟩) (by assumption) ?_
          rotate_left
          · intro wy hSw
            obtain ⟨hS0, hS1⟩ := hSw
            go_simp
            try with_reducible rfl
          try simp only [Act.put, List.getElem_toArray, List.getElem_cons_succ, List.getElem_cons_zero, List.setIfInBounds_toArray, List.set_cons_zero, List.set_cons_succ]
          refine wpAnyH_take (i := 8) (v := ?_) rfl (by kernel_rfl) (by kernel_rfl) (by kernel_rfl) (fun _ _ _ h => h) (Or.inl ⟨by rfl, ?_⟩) (by assumption) ?_
          rotate_left
          · intro wy hSw
            obtain ⟨hS0, hS1⟩ := hSw
            go_simp
            try with_reducible rfl
          try simp only [Act.put, List.getElem_toArray, List.getElem_cons_succ, List.getElem_cons_zero, List.setIfInBounds_toArray, List.set_cons_zero, List.set_cons_succ]
          refine wpAnyH_done (by kernel_rfl) ?_ _
          go_wp2_with fail
          go_meet
          exact ⟨gb, g', gc, Z', rfl, rfl, rfl, hgb, hgc, hbc, HW, HA, HBN, HN, HD0, HNL⟩
    case rest =>
      clear HW HB HA hmk
      obtain ⟨gb, g', gc, Z', rfl, rfl, rfl, hgb, hgc, hbc, HW, HA, HC, HN, HD0, HNL⟩ := hcut
      rw [← cdR_zero H R L L.length] at HD0
      go_wp2
      go_loopg [9, 34] L.length (fun gh av iv wr => ∃ (k : Nat) (g2 : Nat) (Z2 : List (Option Addr × Nat)), k ≤ L.length ∧ gh = L.length - k ∧ iv = .int .i64 k ∧ av = .int .i64 (stY H R L k).2 ∧ Hid (Below w.heap.size w wr) ∧ Hid (OwnV wr (g0 + 1) [.int .i64 0, .slice none 0 0]) ∧ Hid (OwnV wr gb [.int .i64 H, .slice (some ⟨g2, 0, none⟩) R.length R.length]) ∧ Hid (Gnd wr g2 Z2 (pilF idF (stY H R L k).1)) ∧ Hid (OwnV wr gc (ints (cdR H R L L.length k))) ∧ Hid (NoLink wr gc))
      case atStart => exact ⟨0, g', Z', Nat.zero_le _, rfl, rfl, rfl, HW, HA, HC, HN, HD0, HNL⟩
      case round =>
        clear HW HA HC HN HD0 HNL
        obtain ⟨k, g2, Z2, hk, rfl, rfl, rfl, HW, HA, HC, HN, HDC, HNL⟩ := hrel
        by_cases hkn : k < L.length
        · have hki : (k : Int) < (L.length : Int) := by omega
          obtain ⟨ao2, cap2, e2, -, -, hrec⟩ := (unhide HVO).below (unhide HW)
          simp only [Value.slice.injEq] at e2
          obtain ⟨rfl, -, rfl⟩ := e2
          obtain ⟨bo, of, x0, x1, x2, eo, y0, y1, y2, EX⟩ := recYardOpAt hrec hkn
          subst eo
          have hyk := st_ok (unhide HY) L k
          have hkl := st_len H R L k
          have HBH := hide fun g Z W (h : Gnd W g Z (pilF idF (stY H R L k).1)) => behindYardOp_any H x0 x1 x2 g Z (stY H R L k).1 W h hyk
          rw [hkl] at HBH
          have HSU : Hid (stY H R L (k + 1) = ((doY H (stY H R L k).1 x0 x1 x2).1, (stY H R L k).2 + (doY H (stY H R L k).1 x0 x1 x2).2.1)) := by
            show _ = _
            simp only [stY]
            rw [unhide EX]
          have HCU : Hid (cdY H R L k = (doY H (stY H R L k).1 x0 x1 x2).2.2) := by
            show _ = _
            simp only [cdY]
            rw [unhide EX]
          have hmb := st_many (H := H) (R := R) L k
          have hdb := do_many (H := H) (R := (stY H R L k).1) x0 x1 x2
          obtain ⟨sm, esm⟩ : ∃ z, z = (stY H R L k).2 := ⟨_, rfl⟩
          obtain ⟨⟨E1, E2, E3⟩, eE⟩ : ∃ E, E = doY H (stY H R L k).1 x0 x1 x2 := ⟨_, rfl⟩
          rw [← eE] at HBH HSU HCU hdb
          rw [← esm] at HSU hmb ⊢
          dsimp only at HBH HSU HCU hdb
          unfold gndV vYardOp at HBH
          clear eE esm hyk hkl hrec
          go_upto_region 9 with (fail)
          obtain ⟨gp, egp⟩ : ∃ z, z = wr.heap.size := ⟨_, rfl⟩
          obtain ⟨W5, eW⟩ : ∃ z, z = wr.alloc (.cells #[.int .i64 x0, .int .i64 x1, .int .i64 x2] 34) := ⟨_, rfl⟩
          have hb : Below wr.heap.size wr W5 := by rw [eW]; exact Below.alloc1 _ _
          have HP : Hid (OwnV W5 gp [.int .i64 x0, .int .i64 x1, .int .i64 x2]) := by rw [eW, egp]; exact ownV_alloc _ _ _
          rw [← eW, ← egp]
          replace HW := hide (Below.step (unhide HW) hb)
          replace HA := hide ((unhide HA).step hb)
          replace HC := hide ((unhide HC).step hb)
          replace HN := hide ((unhide HN).below hb)
          have hgcw := (unhide HDC).lt
          replace HNL := hide (noLink_kept (T := fun _ => False) (unhide HNL) (kept_of_below hb) hgcw id)
          replace HDC := hide ((unhide HDC).step hb)
          clear hgcw
          clear hb eW egp y0 y1 y2
          have c0 := (unhide HC).cell (i := 0) rfl
          have c1 := (unhide HC).cell (i := 1) rfl
          have p0 := (unhide HP).cell (i := 0) rfl
          have p1 := (unhide HP).cell (i := 1) rfl
          have p2 := (unhide HP).cell (i := 2) rfl
          go_wp2_with fail
          refine (unhide HBH _ _ _ (unhide HN)).mono ?_
          rintro e w6 ⟨g3, Z3, rfl, hG3, hb⟩
          have hgp3 : g3 ≠ gb := gnd_ne hG3 (by have h1 := congrArg List.length (congrArg Prod.fst (unhide HSU)); dsimp only at h1; rw [st_len] at h1; rw [pilF_len]; omega) ((unhide HC).step hb)
          replace HW := hide (Below.step (unhide HW) hb)
          replace HA := hide ((unhide HA).step hb)
          replace HC := hide ((unhide HC).step hb)
          have hgcw := (unhide HDC).lt
          replace HNL := hide (noLink_kept (T := fun _ => False) (unhide HNL) (kept_of_below hb) hgcw id)
          replace HDC := hide ((unhide HDC).step hb)
          clear hgcw
          have HN3 := hide hG3
          have hgc3 : g3 ≠ gc := by
            by_cases e : L.length = 0
            · omega
            · have h1 := unhide HDC
              intro e2
              subst e2
              have h2 := hG3.top.cell (recCells_get (n := 2) (enc := ePl) (L := Z3) (i := 0) (j := 0) (by rw [hG3.len]; have h1 := congrArg List.length (congrArg Prod.fst (unhide HSU)); dsimp only at h1; rw [st_len] at h1; rw [pilF_len]; omega) (by omega))
              simp only [Nat.zero_mul, Nat.add_zero] at h2
              have h3 := h1.cell (ints_get (cdR H R L L.length k) (show 0 < (cdR H R L L.length k).length by rw [cdR_len hk]; omega))
              rw [h2] at h3
              simp [ePl] at h3
          clear hb hG3 c0 c1 p0 p1 p2 HN HP
          have hdl : k < (cdR H R L L.length k).length := by rw [cdR_len hk]; exact hkn
          have q0 := (unhide HC).cell (i := 0) rfl
          have q1 := (unhide HC).cell (i := 1) rfl
          have qf0 := (unhide HC).frozen 0
          have qf1 := (unhide HC).frozen 1
          obtain ⟨u0, hu0⟩ : ∃ z, w6.cell? ⟨gc, k, none⟩ = some (.int .i64 z) := ⟨_, (unhide HDC).cell (ints_get _ hdl)⟩
          have huf := (unhide HDC).frozen k
          have hcb : ¬ gc = gb := fun e => hbc e.symm
          have hK1 : Kept (fun b => b = gb) w6 ((w6.setCell ⟨gb, 0, none⟩ (.int .i64 H)).setCell ⟨gb, 1, none⟩ (.slice (some ⟨g3, 0, none⟩) R.length R.length)) := ((Kept.refl (fun b => b = gb) _).setCell (p := ⟨gb, 0, none⟩) rfl _).setCell (p := ⟨gb, 1, none⟩) rfl _
          have hC1 := ((unhide HC).set 0 (.int .i64 H) (by simp)).set 1 (.slice (some ⟨g3, 0, none⟩) R.length R.length) (by simp)
          obtain ⟨w7, ew7⟩ : ∃ z, z = (w6.setCell ⟨gb, 0, none⟩ (.int .i64 H)).setCell ⟨gb, 1, none⟩ (.slice (some ⟨g3, 0, none⟩) R.length R.length) := ⟨_, rfl⟩
          rw [← ew7] at hK1 hC1
          have hgcl := (unhide HDC).lt
          have HDC1 := hide ((unhide HDC).kept hK1 hcb)
          have hu1 : w7.cell? ⟨gc, k, none⟩ = some (.int .i64 u0) := (World.cell?_of_block (hK1.block gc hgcl hcb)).trans hu0
          have HNL1 := hide (noLink_kept (unhide HNL) hK1 hgcl hcb)
          have hNB := noLink_own (unhide HC) (fun q e => by cases e)
          have HN4 := hide ((unhide HN3).kept hK1 hgp3 (fun k e => e ▸ hNB))
          have hK2 : Kept (fun b => b = gc) w7 (w7.setCell ⟨gc, k, none⟩ (.int .i64 E3)) := (Kept.refl (fun b => b = gc) _).setCell (p := ⟨gc, k, none⟩) rfl _
          have HNL2 := hide (noLink_set (v := E3) (unhide HNL1) hu1)
          have HN5 := hide ((unhide HN4).kept hK2 hgc3 (fun k e => e ▸ unhide HNL1))
          have hdset := (unhide HDC1).set k (.int .i64 E3) (by rw [ints_length]; exact hdl)
          have e5 : (ints (cdR H R L L.length k)).set k (.int .i64 E3) = ints (cdR H R L L.length (k + 1)) := by
            rw [← cdR_set hkn, unhide HCU]; simp [ints, List.map_set]
          rw [e5] at hdset
          have HDC2 := hide hdset
          have HC2 := hide (hC1.kept hK2 (fun e => hbc e))
          have HA2 := hide (((unhide HA).kept hK1 (by omega)).kept hK2 (by omega))
          have hWB := unhide HW
          have HW2 := hide (below_kept (below_kept hWB hK1 hWB.size (fun b e => by omega)) hK2 (Nat.le_trans hWB.size hK1.size) (fun b e => by omega))
          have HP1 : Hid (pilF idF E1 = pilF idF (stY H R L (k + 1)).1) := by show _ = _; rw [unhide HSU]
          rw [unhide HP1] at HN5
          have hsm : IntKind.i64.wrap (sm + E2) = sm + E2 := by rw [IntKind.wrap_i64]; omega
          have HSM : Hid ((stY H R L (k + 1)).2 = sm + E2) := by show _ = _; rw [unhide HSU]
          rw [ew7] at HW2 HA2 HC2 HN5 HDC2 HNL2
          clear hdset e5 hC1 hK1 hK2 hWB HDC1 HNL1 HN4 HN3 hNB hu1 ew7 HC HA HW HDC HNL HP1
          go_wp2
          go_roundg (L.length - (k + 1))
          case measure => omega
          case rel => exact ⟨k + 1, g3, Z3, by omega, rfl, by go_num, by rw [unhide HSM], HW2, HA2, HC2, HN5, HDC2, HNL2⟩
        · have hkk : k = L.length := by omega
          subst hkk
          have HYL := hide (st_ok (unhide HY) L L.length)
          have HSL := hide (st_len H R L L.length)
          have HQ := hide (yardOf_any H g2 Z2 (stY H R L L.length).1 wr (unhide HN) (by rw [unhide HSL]; exact hn2) (fun s hs => by have h1 := (unhide HYL).low s hs; have h2 := (unhide HYL).h2; omega))
          rw [unhide HSL] at HQ
          unfold gndV at HQ
          rw [cdR_all] at HDC
          have HCE := hide (cds_len H R L L.length)
          have eD := unhide HD
          simp only [Prod.mk.injEq] at eD
          obtain ⟨e1, e2, e3⟩ := eD
          rw [← e1] at HQ HSL
          rw [← e2] at HDC HCE
          rw [← e3]
          have hgcl := (unhide HDC).lt
          have hal := (unhide HA).lt
          have c0 := (unhide HC).cell (i := 0) rfl
          have c1 := (unhide HC).cell (i := 1) rfl
          clear e1 e2 e3 HN HNL HD
          go_wp2_with fail
          refine (unhide HQ).mono ?_
          rintro e w2 ⟨gz, Gz, Cz, capz, rfl, hz1, hz2, hOR, hb⟩
          obtain ⟨Bz, eBz⟩ : ∃ z, z = wr.heap.size := ⟨_, rfl⟩
          obtain ⟨Uz, eUz⟩ : ∃ z, z = w2.heap.size := ⟨_, rfl⟩
          have hsw := (unhide HW).size
          have HOR := hide (ownU_of hOR hz1 hz2 eUz)
          rw [← eBz] at HOR hsw hgcl hal
          replace HW := hide (Below.step (unhide HW) hb)
          replace HA := hide ((unhide HA).step hb)
          replace HDC := hide ((unhide HDC).step hb)
          have hUz3 : Uz ≤ w2.heap.size := Nat.le_of_eq eUz
          have HCN : Hid (OwnIntsU gc Bz w2 (.slice (some ⟨gc, 0, none⟩) L.length L.length) D2) := ⟨_, L.length, by rw [unhide HCE], by rw [unhide HCE]; exact Nat.le_refl _, by unfold maxLen; omega, fun _ => ⟨gc, rfl, Nat.le_refl _, hgcl, unhide HDC⟩⟩
          have hBU : Bz ≤ Uz := by rw [eBz, eUz]; exact hb.size
          clear hOR hb c0 c1 HQ eBz eUz HDC
          unfold yardV
          rw [unhide HSL]
          rw [unhide HSL] at HOR
          have HKS : Hid (Kept (fun b => b = g0 + 1) w2 ((w2.setCell ⟨g0 + 1, 0, none⟩ (.int .i64 H)).setCell ⟨g0 + 1, 1, none⟩ (.slice (some ⟨gz, 0, none⟩) R.length capz))) := ((Kept.refl (fun b => b = g0 + 1) _).setCell (p := ⟨g0 + 1, 0, none⟩) rfl _).setCell (p := ⟨g0 + 1, 1, none⟩) rfl _
          have rf0 := (unhide HA).frozen 0
          have rf1 := (unhide HA).frozen 1
          have r0 := (unhide HA).cell (i := 0) rfl
          have r1 := (unhide HA).cell (i := 1) rfl
          have f0 := (((unhide HA).set 0 (.int .i64 H) (by simp)).set 1 (.slice (some ⟨gz, 0, none⟩) R.length capz) (by simp)).cell (i := 0) rfl
          have f1 := (((unhide HA).set 0 (.int .i64 H) (by simp)).set 1 (.slice (some ⟨gz, 0, none⟩) R.length capz) (by simp)).cell (i := 1) rfl
          have hWB : Below w.heap.size w w2 := unhide HW
          go_wp2
          refine bodyPost_ret (v := .tuple #[.agg #[.int .i64 H, .slice (some ⟨gz, 0, none⟩) R.length capz], .slice (some ⟨gc, 0, none⟩) L.length L.length, .int .i64 D3]) (by simp [results, Try.results16, go_sem, f0, f1]) rfl ?_
          exact ⟨_, _, Bz, Uz, gc, Bz, gz, capz, _, _, _, rfl, by dsimp only; rw [unhide HSL], rfl, (unhide HOR).kept (unhide HKS) (fun b h1 h2 e => by omega), (unhide HCN).kept (unhide HKS) (fun b h1 h2 e => by omega), hsw, by omega, Nat.le_trans hUz3 (unhide HKS).size, Nat.le_trans (Nat.le_trans hBU hUz3) (unhide HKS).size, Or.inr (Nat.le_refl _), below_kept hWB (unhide HKS) hWB.size (fun b e => by omega)⟩

end Go.Proofs.Ytdiifkeebgdfkaa

namespace Go.Proofs.Ytdiifkeebgdfkaa
open Go.RowKit

/-- One cell. -/
def Ce (w : World) (a : Addr) (v : Value) : Prop := w.cell? a = some v
theorem Ce.step {w w' : World} {a : Addr} {v : Value} (h : Ce w a v) (hb : Below w.heap.size w w') : Ce w' a v := (hb.cell (lt_of_cell h)).trans h
theorem Ce.kept {T : Nat → Prop} {w w' : World} {a : Addr} {v : Value} (h : Ce w a v) (hk : Kept T w w') (hT : ¬ T a.block) : Ce w' a v := (World.cell?_of_block (hk.block a.block (lt_of_cell h) hT)).trans h

/-- What the specification's RunYard answers. -/
def SRnA (w : World) (H : Int) (D : List (List Int) × List Int × Int) (e : Ending) (w' : World) : Prop := ∃ ao n cap co cn cc, e = .returned (.tuple #[yardV H (.slice ao n cap), .slice co cn cc, .int .i64 D.2.2]) ∧ RowsIn w' (.slice ao n cap) D.1 ∧ IntsIn w' (.slice co cn cc) D.2.1 ∧ Below w.heap.size w w'

theorem recsI {w : World} {v : Value} {L : List Int} (h : RecsIn 1 eI w v L) : IntsIn w v L := by
  obtain ⟨ao, cap, e, h1, h2, h3⟩ := h
  refine ⟨ao, cap, e, h1, h2, fun i hi => ?_⟩
  obtain ⟨b, o, e2, hc⟩ := h3 i hi
  refine ⟨b, o, e2, ?_⟩
  have := hc 0 (by omega)
  rw [show o + (i * 1 + 0) = o + i by omega] at this
  exact this

set_option maxRecDepth 100000 in
set_option maxHeartbeats 16000000 in
theorem specRunYard_any (H : Int) (v : Value) (R : List (List Int)) (ov : Value) (L : List YardOpT) (w : World) (h : RowsIn w v R) (hO : RYardOp w ov L) (hn : R.length ≤ 1048576) (hl : ∀ s, s < R.length → (R.getD s []).length ≤ 1048576) (hLn : L.length ≤ 1048576) :
    Calls Try.prog 32 #[yardV H v, ov] w fun e w' => SRnA w H (rnY H R L) e w' := by
  obtain ⟨⟨D1, D2, D3⟩, eD⟩ : ∃ D, D = rnY H R L := ⟨_, rfl⟩
  rw [← eD]
  have ED := hide eD
  clear eD
  have HSR : Hid (∀ k, (stY H R L k).1.length ≤ 1048576 ∧ ∀ s, s < (stY H R L k).1.length → ((stY H R L k).1.getD s []).length ≤ 1048576) := fun k => by
    refine ⟨by rw [st_len]; exact hn, fun s hs => ?_⟩
    by_cases hy : YOk H R
    · have h1 := (st_ok hy L k).low s hs
      have h2 := hy.h2
      omega
    · rw [st_bad hy] at hs ⊢; exact hl s hs
  have HVO := hide hO
  obtain ⟨oo, ocap, rfl, hol, hom, -⟩ := hO
  unfold maxLen at hom
  obtain ⟨ao, cap, rfl, hc1, hc2⟩ := rows_cap h
  have HCPY := hide fun W (hb : Below w.heap.size w W) => l18Copy_any H (.slice ao R.length cap) R W (h.below hb) hn hl
  clear h hl
  unfold yardV at HCPY ⊢
  go_enter Try.func32, Try.ntmps32
  go_upto_region 1 with (fail)
  obtain ⟨g0, eg0⟩ : ∃ z, z = w.heap.size := ⟨_, rfl⟩
  obtain ⟨W, eW⟩ : ∃ z, z = (w.alloc (.cells #[.int .i64 H, .slice ao R.length cap] 26)).alloc (.cells #[.int .i64 0, .slice none 0 0] 26) := ⟨_, rfl⟩
  have HW : Hid (Below w.heap.size w W) := by rw [eW]; exact Below.step (Below.alloc1 _ _) (Below.alloc1 _ _)
  have HB : Hid (OwnV W g0 [.int .i64 H, .slice ao R.length cap]) := by rw [eW, eg0]; exact (ownV_alloc _ _ _).step (Below.alloc1 _ _)
  have HA : Hid (OwnV W (g0 + 1) [.int .i64 0, .slice none 0 0]) := by rw [eW, eg0]; exact own_newS _ _ _ _ (by simp)
  rw [← eW, ← eg0]
  have hg0 : w.heap.size ≤ g0 := by omega
  clear eW eg0
  have hal := (unhide HA).lt
  have b0 := (unhide HB).cell (i := 0) rfl
  have b1 := (unhide HB).cell (i := 1) rfl
  go_wp2_with fail
  refine (unhide HCPY _ (unhide HW)).mono ?_
  intro e w1 hcp
  obtain ⟨oa, on, oc, rfl, hb, hcp⟩ := hcp
  have HST0 : Hid (∀ V, Kept (fun b => b ≤ g0 + 1) w1 V → RowsIn V (.slice oa on oc) R) := fun V hk => by
    rcases hcp with ⟨rfl, rfl, rfl, rfl⟩ | ⟨g, A, C, rfl, rfl, h1, h2, hs⟩
    · exact ⟨none, 0, rfl, Nat.le_refl _, Nat.zero_le _, fun r hr => by simp at hr⟩
    · exact (hs.kept hk (fun k hk' e => by omega)).rows h1 h2
  have hgw : g0 + 1 < w1.heap.size := Nat.lt_of_lt_of_le hal hb.size
  replace HW := hide (Below.step (unhide HW) hb)
  replace HA := hide ((unhide HA).step hb)
  clear hcp hb b0 b1 HB HCPY hal
  unfold yardV
  obtain ⟨gb, egb⟩ : ∃ z, z = w1.heap.size := ⟨_, rfl⟩
  have hgb : g0 + 1 < gb := by omega
  go_upto_region 2 with (fail)
  obtain ⟨W2, eW⟩ : ∃ z, z = w1.alloc (.cells #[.int .i64 H, .slice oa on oc] 26) := ⟨_, rfl⟩
  have hb : Below w1.heap.size w1 W2 := by rw [eW]; exact Below.alloc1 _ _
  have HC : Hid (OwnV W2 gb [.int .i64 H, .slice oa on oc]) := by rw [eW, egb]; exact ownV_alloc _ _ _
  rw [← eW, ← egb]
  replace HST0 : Hid (∀ V, Kept (fun b => b ≤ g0 + 1) W2 V → RowsIn V (.slice oa on oc) R) := fun V hk => unhide HST0 V ((kept_of_below hb).trans hk)
  replace HW := hide (Below.step (unhide HW) hb)
  replace HA := hide ((unhide HA).step hb)
  clear hb eW egb hgw
  have HRB := hide (rowB_new 3 1 eI W2 (gb + 1) (unhide HC).lt)
  obtain ⟨gc, egc⟩ : ∃ z, z = W2.heap.size := ⟨_, rfl⟩
  go_upto_region 5 with (fail)
  obtain ⟨W3, eW⟩ : ∃ z, z = W2.alloc (.cells #[] 3) := ⟨_, rfl⟩
  have hb : Below W2.heap.size W2 W3 := by rw [eW]; exact Below.alloc1 _ _
  rw [← eW] at HRB ⊢
  rw [← egc] at HRB ⊢
  replace HST0 : Hid (∀ V, Kept (fun b => b ≤ g0 + 1) W3 V → RowsIn V (.slice oa on oc) R) := fun V hk => unhide HST0 V ((kept_of_below hb).trans hk)
  replace HW := hide (Below.step (unhide HW) hb)
  replace HA := hide ((unhide HA).step hb)
  replace HC := hide ((unhide HC).step hb)
  clear hb eW egc
  by_cases h200 : L.length ≤ 200
  case neg =>
    have HD := hide ((unhide ED).trans (rn_many h200))
    have n200 : ¬ ((L.length : Int) ≤ 200) := by omega
    have d200 : decide ((L.length : Int) ≤ 200) = false := decide_eq_false n200
    have nL : ((0 : Int) < (L.length : Int)) := by omega
    have dL : decide ((0 : Int) < (L.length : Int)) = true := decide_eq_true nL
    go_loopg [8, 9, 10] 0 (fun gh cv sv iv wr => W3 = wr ∧ gh = 0 ∧ cv = .slice (some ⟨gc, 0, none⟩) 0 0 ∧ sv = .int .i64 0 ∧ iv = .int .i64 0)
    case atStart => exact ⟨rfl, rfl, rfl, rfl, rfl⟩
    case round =>
      obtain ⟨rfl, rfl, rfl, rfl, rfl⟩ := hrel
      have c0 := (unhide HC).cell (i := 0) rfl
      have c1 := (unhide HC).cell (i := 1) rfl
      have HKS : Hid (Kept (fun b => b = g0 + 1) W3 ((W3.setCell ⟨g0 + 1, 0, none⟩ (.int .i64 H)).setCell ⟨g0 + 1, 1, none⟩ (.slice oa on oc))) := ((Kept.refl (fun b => b = g0 + 1) _).setCell (p := ⟨g0 + 1, 0, none⟩) rfl _).setCell (p := ⟨g0 + 1, 1, none⟩) rfl _
      have rf0 := (unhide HA).frozen 0
      have rf1 := (unhide HA).frozen 1
      have r0 := (unhide HA).cell (i := 0) rfl
      have r1 := (unhide HA).cell (i := 1) rfl
      have f0 := (((unhide HA).set 0 (.int .i64 H) (by simp)).set 1 (.slice oa on oc) (by simp)).cell (i := 0) rfl
      have f1 := (((unhide HA).set 0 (.int .i64 H) (by simp)).set 1 (.slice oa on oc) (by simp)).cell (i := 1) rfl
      have hWB : Below w.heap.size w W3 := unhide HW
      go_wp2
      refine bodyPost_ret (v := .tuple #[.agg #[.int .i64 H, .slice oa on oc], .slice (some ⟨gc, 0, none⟩) 0 0, .int .i64 0]) (by simp [results, Try.results32, go_sem, f0, f1]) rfl ?_
      have eD := unhide HD
      simp only [Prod.mk.injEq] at eD
      obtain ⟨e1, e2, e3⟩ := eD
      subst e1 e2 e3
      exact ⟨_, _, _, _, _, _, rfl, unhide HST0 _ ((unhide HKS).mono (fun k _ e => by (have e : k = g0 + 1 := e); show k ≤ g0 + 1; omega)), ⟨_, 0, rfl, Nat.le_refl _, Nat.zero_le _, fun i hi => by simp at hi⟩, below_keptS hWB (unhide HKS) hWB.size (fun b e => by omega)⟩
  have d200 : decide ((L.length : Int) ≤ 200) = true := decide_eq_true (by omega)
  have n200 : ((L.length : Int) ≤ 200) := by omega
  have HD := hide ((unhide ED).trans (rn_few h200))
  go_loopg [8, 9, 10] L.length (fun gh cv sv iv wr => ∃ (k : Nat) (oa : Option Addr) (on oc : Nat) (co : Nat) (cc : Nat), k ≤ L.length ∧ gh = L.length - k ∧ cv = .slice (some ⟨co, 0, none⟩) k cc ∧ sv = .int .i64 (stY H R L k).2 ∧ iv = .int .i64 k ∧ Hid (Below w.heap.size w wr) ∧ Hid (OwnV wr (g0 + 1) [.int .i64 0, .slice none 0 0]) ∧ Hid (OwnV wr gb [.int .i64 H, .slice oa on oc]) ∧ Hid (∀ V, Kept (fun b => b ≤ g0 + 1) wr V → RowsIn V (.slice oa on oc) (stY H R L k).1) ∧ Hid (RowB 3 1 eI (gb + 1) wr (some ⟨co, 0, none⟩) k cc (cdsY H R L k)))
  case atStart => exact ⟨0, oa, on, oc, gc, 0, Nat.zero_le _, rfl, rfl, rfl, rfl, HW, HA, HC, HST0, HRB⟩
  case round =>
    clear HW HA HC HST0 HRB
    obtain ⟨k, oa, on, oc, co, cc, hk, rfl, rfl, rfl, rfl, HW, HA, HC, HST, HRB⟩ := hrel
    by_cases hkn : k < L.length
    · have hki : (k : Int) < (L.length : Int) := by omega
      have dki : decide ((k : Int) < (L.length : Int)) = true := decide_eq_true hki
      obtain ⟨ao2, cap2, e2, -, -, hrec⟩ := (unhide HVO).below (unhide HW)
      simp only [Value.slice.injEq] at e2
      obtain ⟨rfl, -, rfl⟩ := e2
      obtain ⟨bo, of, x0, x1, x2, eo, y0, y1, y2, EX⟩ := recYardOpAt hrec hkn
      subst eo
      have HY0 : Hid (Ce wr ⟨bo, of + k * 3, none⟩ (.int .i64 x0)) := y0
      have HY1 : Hid (Ce wr ⟨bo, of + k * 3 + 1, none⟩ (.int .i64 x1)) := y1
      have HY2 : Hid (Ce wr ⟨bo, of + k * 3 + 2, none⟩ (.int .i64 x2)) := y2
      have hbo : bo < w.heap.size := by
        obtain ⟨ao3, cap3, e3, -, -, hrec3⟩ := unhide HVO
        simp only [Value.slice.injEq] at e3
        obtain ⟨b5, o5, e5, h5⟩ := hrec3 k hkn
        rw [← e3.1] at e5
        simp only [Option.some.injEq, Addr.mk.injEq, and_true] at e5
        have h6 := lt_of_cell (h5 0 (by omega))
        rw [e5.1]
        exact h6
      have hsr := unhide HSR k
      have HDQ := hide fun W (hb : Below wr.heap.size wr W) => specDoYard_any H (.slice oa on oc) (stY H R L k).1 x0 x1 x2 W ((unhide HST wr (Kept.refl _ _)).below hb) hsr.1 hsr.2
      have HSU : Hid (stY H R L (k + 1) = ((doY H (stY H R L k).1 x0 x1 x2).1, (stY H R L k).2 + (doY H (stY H R L k).1 x0 x1 x2).2.1)) := by
        show _ = _
        simp only [stY]
        rw [unhide EX]
      have HCU : Hid (cdY H R L k = (doY H (stY H R L k).1 x0 x1 x2).2.2) := by
        show _ = _
        simp only [cdY]
        rw [unhide EX]
      have hmb := st_many (H := H) (R := R) L k
      have hdb := do_many (H := H) (R := (stY H R L k).1) x0 x1 x2
      obtain ⟨sm, esm⟩ : ∃ z, z = (stY H R L k).2 := ⟨_, rfl⟩
      obtain ⟨⟨E1, E2, E3⟩, eE⟩ : ∃ E, E = doY H (stY H R L k).1 x0 x1 x2 := ⟨_, rfl⟩
      rw [← eE] at HDQ HSU HCU hdb
      rw [← esm] at HSU hmb ⊢
      dsimp only at HSU HCU hdb
      unfold yardV vYardOp at HDQ
      clear eE esm hrec hsr y0 y1 y2
      go_upto_region 7 with (fail)
      go_cut [11, 12, 13] (fun s11 s12 s13 wx => ∃ (gn : Nat) (oa2 : Option Addr) (on2 oc2 : Nat), s11 = .pointer (some ⟨gn, 0, none⟩) ∧ s12 = .int .i64 E2 ∧ s13 = .int .i64 E3 ∧ gb < gn ∧ (∀ q, co = q → q ≠ gn) ∧ Hid (Below w.heap.size w wx) ∧ Hid (OwnV wx (g0 + 1) [.int .i64 0, .slice none 0 0]) ∧ Hid (OwnV wx gb [.int .i64 H, .slice oa on oc]) ∧ Hid (OwnV wx gn [.int .i64 H, .slice oa2 on2 oc2]) ∧ Hid (∀ V, Kept (fun b => b < wr.heap.size) wx V → RowsIn V (.slice oa2 on2 oc2) E1) ∧ Hid (RowB 3 1 eI (gb + 1) wx (some ⟨co, 0, none⟩) k cc (cdsY H R L k)))
      case first =>
        have hlwr := (unhide HC).lt
        obtain ⟨wd, ewd⟩ : ∃ z, z = wr.drew := ⟨_, rfl⟩
        have hb : Below wr.heap.size wr wd := by rw [ewd]; exact (Below.refl _ _).drew
        have HX := hide hb
        have hlwd := Nat.lt_of_lt_of_le hlwr hb.size
        replace HW := hide (Below.step (unhide HW) hb)
        replace HA := hide ((unhide HA).step hb)
        replace HC := hide ((unhide HC).step hb)
        replace HY0 := hide ((unhide HY0).step hb)
        replace HY1 := hide ((unhide HY1).step hb)
        replace HY2 := hide ((unhide HY2).step hb)
        replace HRB := hide ((unhide HRB).below hb)
        clear hb
        refine wp_region_held_drew (S := fun w' => w'.cell? ⟨gb, 0, none⟩ = some (.int .i64 H) ∧ w'.cell? ⟨gb, 1, none⟩ = some (.slice oa on oc) ∧ w'.cell? ⟨bo, of + k * 3, none⟩ = some (.int .i64 x0) ∧ w'.cell? ⟨bo, of + k * 3 + 1, none⟩ = some (.int .i64 x1) ∧ w'.cell? ⟨bo, of + k * 3 + 2, none⟩ = some (.int .i64 x2)) (by kernel_rfl) ⟨by rw [← ewd]; exact (unhide HC).cell (i := 0) rfl, by rw [← ewd]; exact (unhide HC).cell (i := 1) rfl, by rw [← ewd]; exact unhide HY0, by rw [← ewd]; exact unhide HY1, by rw [← ewd]; exact unhide HY2⟩ (fun hHeld => ?_)
        rw [← ewd] at hHeld ⊢
        clear ewd
        refine wpAnyH_take (i := 0) (v := ?_) rfl (by kernel_rfl) (by kernel_rfl) (by kernel_rfl) (fun _ _ _ h => h) (Or.inl ⟨by rfl, ?_⟩) (by assumption) ?_
        rotate_left
        · intro wy hSw
          obtain ⟨hS0, hS1, hS2, hS3, hS4⟩ := hSw
          go_simp
          try with_reducible rfl
        try simp only [Act.put, List.getElem_toArray, List.getElem_cons_zero, List.setIfInBounds_toArray, List.set_cons_zero, List.set_cons_succ]
        refine wpAnyH_take (i := 1) (v := ?_) rfl (by kernel_rfl) (by kernel_rfl) (by kernel_rfl) (fun _ _ _ h => h) (Or.inl ⟨by rfl, ?_⟩) (by assumption) ?_
        rotate_left
        · intro wy hSw
          obtain ⟨hS0, hS1, hS2, hS3, hS4⟩ := hSw
          go_simp
          try with_reducible rfl
        try simp only [Act.put, List.getElem_toArray, List.getElem_cons_succ, List.getElem_cons_zero, List.setIfInBounds_toArray, List.set_cons_zero, List.set_cons_succ]
        refine wpAnyH_take (i := 2) (v := ?_) rfl (by kernel_rfl) (by kernel_rfl) (by kernel_rfl) (fun _ _ _ h => h) (Or.inl ⟨by rfl, ?_⟩) (by assumption) ?_
        rotate_left
        · intro wy hSw
          obtain ⟨hS0, hS1, hS2, hS3, hS4⟩ := hSw
          go_simp
          try with_reducible rfl
        try simp only [Act.put, List.getElem_toArray, List.getElem_cons_succ, List.getElem_cons_zero, List.setIfInBounds_toArray, List.set_cons_zero, List.set_cons_succ]
        refine wpAnyH_take (i := 3) (v := ?_) rfl (by kernel_rfl) (by kernel_rfl) (by kernel_rfl) (fun _ _ _ h => h) (Or.inl ⟨by rfl, ?_⟩) (by assumption) ?_
        rotate_left
        · intro wy hSw
          obtain ⟨hS0, hS1, hS2, hS3, hS4⟩ := hSw
          go_simp
          try with_reducible rfl
        try simp only [Act.put, List.getElem_toArray, List.getElem_cons_succ, List.getElem_cons_zero, List.setIfInBounds_toArray, List.set_cons_zero, List.set_cons_succ]
        refine wpAnyH_take (i := 4) (v := ?_) rfl (by kernel_rfl) (by kernel_rfl) (by kernel_rfl) (fun _ _ _ h => h) (Or.inl ⟨by rfl, ?_⟩) (by assumption) ?_
        rotate_left
        · intro wy hSw
          obtain ⟨hS0, hS1, hS2, hS3, hS4⟩ := hSw
          go_simp
          try with_reducible rfl
        try simp only [Act.put, List.getElem_toArray, List.getElem_cons_succ, List.getElem_cons_zero, List.setIfInBounds_toArray, List.set_cons_zero, List.set_cons_succ]
        refine wpAnyH_ready (rs := [5, 10]) (by kernel_rfl) (by simp) ?_
        refine AllReadyH.cons rfl (fun K hK => ?_) (AllReadyH.cons rfl (fun K hK => ?_) AllReadyH.nil)
        · go_simp
          have HCQ := hide (unhide HDQ wd (unhide HX))
          refine (unhide HCQ).mono ?_
          rintro e v5 ⟨oa2, on2, oc2, rfl, hin, hb⟩
          try dsimp only at hin
          have HIN := hide hin
          have hxs := (unhide HX).size
          replace HW := hide (Below.step (unhide HW) hb)
          replace HA := hide ((unhide HA).step hb)
          replace HC := hide ((unhide HC).step hb)
          replace HY0 := hide ((unhide HY0).step hb)
          replace HY1 := hide ((unhide HY1).step hb)
          replace HY2 := hide ((unhide HY2).step hb)
          replace HRB := hide ((unhide HRB).below hb)
          replace HX := hide (Below.step (unhide HX) hb)
          have hlv5 := Nat.lt_of_lt_of_le hlwd hb.size
          clear hin HCQ
          clear hb
          try unfold yardV
          try dsimp only
          refine hK.out _ _ ⟨(unhide HC).cell (i := 0) rfl, (unhide HC).cell (i := 1) rfl, unhide HY0, unhide HY1, unhide HY2⟩ (fun hHeld => ?_)
          clear hK K
          try simp only [Act.put, List.setIfInBounds_toArray, List.set_cons_zero, List.set_cons_succ]
          refine wpAnyH_take (i := 6) (v := ?_) rfl (by kernel_rfl) (by kernel_rfl) (by kernel_rfl) (fun _ _ _ h => h) (Or.inl ⟨by rfl, ?_⟩) (by assumption) ?_
          rotate_left
          · intro wy hSw
            obtain ⟨hS0, hS1, hS2, hS3, hS4⟩ := hSw
            go_simp
            try with_reducible rfl
          try simp only [Act.put, List.getElem_toArray, List.getElem_cons_succ, List.getElem_cons_zero, List.setIfInBounds_toArray, List.set_cons_zero, List.set_cons_succ]
          refine wpAnyH_take (i := 7) (v := ?_) rfl (by kernel_rfl) (by kernel_rfl) (by kernel_rfl) (fun _ _ _ h => h) (Or.inl ⟨by rfl, ?_⟩) (by assumption) ?_
          rotate_left
          · intro wy hSw
            obtain ⟨hS0, hS1, hS2, hS3, hS4⟩ := hSw
            go_simp
            try with_reducible rfl
          try simp only [Act.put, List.getElem_toArray, List.getElem_cons_succ, List.getElem_cons_zero, List.setIfInBounds_toArray, List.set_cons_zero, List.set_cons_succ]
          refine wpAnyH_take (i := 8) (v := ?_) rfl (by kernel_rfl) (by kernel_rfl) (by kernel_rfl) (fun _ _ _ h => h) (Or.inl ⟨by rfl, ?_⟩) (by assumption) ?_
          rotate_left
          · intro wy hSw
            obtain ⟨hS0, hS1, hS2, hS3, hS4⟩ := hSw
            go_simp
            try with_reducible rfl
          try simp only [Act.put, List.getElem_toArray, List.getElem_cons_succ, List.getElem_cons_zero, List.setIfInBounds_toArray, List.set_cons_zero, List.set_cons_succ]
          refine wpAnyH_take (i := 9) (v := ?_) rfl (by kernel_rfl) (by kernel_rfl) (by kernel_rfl) (fun _ _ _ h => h) (Or.inl ⟨by rfl, ?_⟩) (by assumption) ?_
          rotate_left
          · intro wy hSw
            obtain ⟨hS0, hS1, hS2, hS3, hS4⟩ := hSw
            go_simp
            try with_reducible rfl
          try simp only [Act.put, List.getElem_toArray, List.getElem_cons_succ, List.getElem_cons_zero, List.setIfInBounds_toArray, List.set_cons_zero, List.set_cons_succ]
          refine wpAnyH_ready (rs := [10]) (by kernel_rfl) (by simp) ?_
          refine AllReadyH.cons rfl (fun K hK => ?_) AllReadyH.nil
          go_simp
          obtain ⟨gn, egn⟩ : ∃ z, z = v5.heap.size := ⟨_, rfl⟩
          have hgn : gb < gn := by rw [egn]; exact hlv5
          have hcn : ∀ q, co = q → q ≠ gn := fun q e => by have h1 := ((unhide HRB).mono (Nat.zero_le _)).ownG (by omega); have h2 := h1.2.2.2.1; omega
          obtain ⟨v6, ew⟩ : ∃ z, z = v5.alloc (.cells #[.int .i64 0, .slice none 0 0] 26) := ⟨_, rfl⟩
          have hb : Below v5.heap.size v5 v6 := by rw [ew]; exact Below.alloc1 _ _
          have HBB : Hid (OwnV v6 gn [.int .i64 0, .slice none 0 0]) := by rw [ew, egn]; exact ownV_alloc _ _ _
          rw [← ew, ← egn]
          replace HW := hide (Below.step (unhide HW) hb)
          replace HA := hide ((unhide HA).step hb)
          replace HC := hide ((unhide HC).step hb)
          replace HY0 := hide ((unhide HY0).step hb)
          replace HY1 := hide ((unhide HY1).step hb)
          replace HY2 := hide ((unhide HY2).step hb)
          replace HRB := hide ((unhide HRB).below hb)
          replace HX := hide (Below.step (unhide HX) hb)
          have hlv6 := Nat.lt_of_lt_of_le hlv5 hb.size
          have HBA := hide hb
          have hgq : v5.heap.size ≤ gn := Nat.le_of_eq egn.symm
          clear hb ew egn
          refine hK.out _ _ ⟨(unhide HC).cell (i := 0) rfl, (unhide HC).cell (i := 1) rfl, unhide HY0, unhide HY1, unhide HY2⟩ (fun hHeld => ?_)
          clear hK K
          try simp only [Act.put, List.setIfInBounds_toArray, List.set_cons_zero, List.set_cons_succ]
          refine wpAnyH_ready (rs := [11]) (by kernel_rfl) (by simp) ?_
          refine AllReadyH.cons rfl (fun K hK => ?_) AllReadyH.nil
          have rf0 := (unhide HBB).frozen 0
          have rf1 := (unhide HBB).frozen 1
          have r0 := (unhide HBB).cell (i := 0) rfl
          have r1 := (unhide HBB).cell (i := 1) rfl
          have HBN := hide (((unhide HBB).set 0 (.int .i64 H) (by simp)).set 1 (.slice oa2 on2 oc2) (by simp))
          have HKS : Hid (Kept (fun b => b = gn) v6 ((v6.setCell ⟨gn, 0, none⟩ (.int .i64 H)).setCell ⟨gn, 1, none⟩ (.slice oa2 on2 oc2))) := ((Kept.refl (fun b => b = gn) _).setCell (p := ⟨gn, 0, none⟩) rfl _).setCell (p := ⟨gn, 1, none⟩) rfl _
          have hWB := unhide HW
          have HRS : Hid (∀ V, Kept (fun b => b < wr.heap.size) ((v6.setCell ⟨gn, 0, none⟩ (.int .i64 H)).setCell ⟨gn, 1, none⟩ (.slice oa2 on2 oc2)) V → RowsIn V (.slice oa2 on2 oc2) E1) := fun V hV => unhide HIN V ((kept_of_below (below_keptS (unhide HBA) (unhide HKS) (unhide HBA).size (fun b e => by omega))).trans (hV.mono (fun k _ e => by (have e : k < wr.heap.size := e); show k < _; omega)))
          replace HW := hide (below_keptS hWB (unhide HKS) hWB.size (fun b e => by omega))
          replace HA := hide ((unhide HA).kept (unhide HKS) (by omega))
          replace HC := hide ((unhide HC).kept (unhide HKS) (by omega))
          replace HY0 := hide ((unhide HY0).kept (unhide HKS) (by show ¬ bo = gn; omega))
          replace HY1 := hide ((unhide HY1).kept (unhide HKS) (by show ¬ bo = gn; omega))
          replace HY2 := hide ((unhide HY2).kept (unhide HKS) (by show ¬ bo = gn; omega))
          replace HRB := hide ((unhide HRB).kept (unhide HKS) (fun g e _ _ => by simp only [Option.some.injEq, Addr.mk.injEq, and_true] at e; exact hcn g e))
          go_simp
          clear rf0 rf1 r0 r1 hWB
          refine hK.out _ _ ⟨(unhide HC).cell (i := 0) rfl, (unhide HC).cell (i := 1) rfl, unhide HY0, unhide HY1, unhide HY2⟩ (fun hHeld => ?_)
          clear hK K
          try simp only [Act.put, List.setIfInBounds_toArray, List.set_cons_zero, List.set_cons_succ]
          refine wpAnyH_take (i := 12) (v := ?_) rfl (by kernel_rfl) (by kernel_rfl) (by kernel_rfl) (fun _ _ _ h => h) (Or.inl ⟨by rfl, ?_⟩) (by assumption) ?_
          rotate_left
          · intro wy hSw
            obtain ⟨hS0, hS1, hS2, hS3, hS4⟩ := hSw
            go_simp
            try with_reducible rfl
          try simp only [Act.put, List.getElem_toArray, List.getElem_cons_succ, List.getElem_cons_zero, List.setIfInBounds_toArray, List.set_cons_zero, List.set_cons_succ]
          refine wpAnyH_take (i := 13) (v := ?_) rfl (by kernel_rfl) (by kernel_rfl) (by kernel_rfl) (fun _ _ _ h => h) (Or.inl ⟨by rfl, ?_⟩) (by assumption) ?_
          rotate_left
          · intro wy hSw
            obtain ⟨hS0, hS1, hS2, hS3, hS4⟩ := hSw
            go_simp
            try with_reducible rfl
          try simp only [Act.put, List.getElem_toArray, List.getElem_cons_succ, List.getElem_cons_zero, List.setIfInBounds_toArray, List.set_cons_zero, List.set_cons_succ]
          refine wpAnyH_done (by kernel_rfl) ?_ _
          go_wp2_with fail
          go_meet
          exact ⟨gn, oa2, on2, oc2, rfl, rfl, rfl, hgn, hcn, HW, HA, HC, HBN, HRS, HRB⟩
        · go_simp
          obtain ⟨gn, egn⟩ : ∃ z, z = wd.heap.size := ⟨_, rfl⟩
          have hgn : gb < gn := by rw [egn]; exact hlwd
          have hcn : ∀ q, co = q → q ≠ gn := fun q e => by have h1 := ((unhide HRB).mono (Nat.zero_le _)).ownG (by omega); have h2 := h1.2.2.2.1; omega
          obtain ⟨v7, ew⟩ : ∃ z, z = wd.alloc (.cells #[.int .i64 0, .slice none 0 0] 26) := ⟨_, rfl⟩
          have hb : Below wd.heap.size wd v7 := by rw [ew]; exact Below.alloc1 _ _
          have HBB : Hid (OwnV v7 gn [.int .i64 0, .slice none 0 0]) := by rw [ew, egn]; exact ownV_alloc _ _ _
          rw [← ew, ← egn]
          replace HW := hide (Below.step (unhide HW) hb)
          replace HA := hide ((unhide HA).step hb)
          replace HC := hide ((unhide HC).step hb)
          replace HY0 := hide ((unhide HY0).step hb)
          replace HY1 := hide ((unhide HY1).step hb)
          replace HY2 := hide ((unhide HY2).step hb)
          replace HRB := hide ((unhide HRB).below hb)
          replace HX := hide (Below.step (unhide HX) hb)
          have hlv7 := Nat.lt_of_lt_of_le hlwd hb.size
          clear hb ew egn
          refine hK.out _ _ ⟨(unhide HC).cell (i := 0) rfl, (unhide HC).cell (i := 1) rfl, unhide HY0, unhide HY1, unhide HY2⟩ (fun hHeld => ?_)
          clear hK K
          try simp only [Act.put, List.setIfInBounds_toArray, List.set_cons_zero, List.set_cons_succ]
          refine wpAnyH_ready (rs := [5]) (by kernel_rfl) (by simp) ?_
          refine AllReadyH.cons rfl (fun K hK => ?_) AllReadyH.nil
          go_simp
          have HCQ := hide (unhide HDQ v7 (unhide HX))
          refine (unhide HCQ).mono ?_
          rintro e v8 ⟨oa2, on2, oc2, rfl, hin, hb⟩
          try dsimp only at hin
          have hgnw := (unhide HBB).lt
          have HIN := hide hin
          have hxs := (unhide HX).size
          replace HW := hide (Below.step (unhide HW) hb)
          replace HA := hide ((unhide HA).step hb)
          replace HC := hide ((unhide HC).step hb)
          replace HY0 := hide ((unhide HY0).step hb)
          replace HY1 := hide ((unhide HY1).step hb)
          replace HY2 := hide ((unhide HY2).step hb)
          replace HRB := hide ((unhide HRB).below hb)
          replace HBB := hide ((unhide HBB).step hb)
          replace HX := hide (Below.step (unhide HX) hb)
          have hlv8 := Nat.lt_of_lt_of_le hlv7 hb.size
          clear hin HCQ
          clear hb
          try unfold yardV
          try dsimp only
          refine hK.out _ _ ⟨(unhide HC).cell (i := 0) rfl, (unhide HC).cell (i := 1) rfl, unhide HY0, unhide HY1, unhide HY2⟩ (fun hHeld => ?_)
          clear hK K
          try simp only [Act.put, List.setIfInBounds_toArray, List.set_cons_zero, List.set_cons_succ]
          refine wpAnyH_take (i := 6) (v := ?_) rfl (by kernel_rfl) (by kernel_rfl) (by kernel_rfl) (fun _ _ _ h => h) (Or.inl ⟨by rfl, ?_⟩) (by assumption) ?_
          rotate_left
          · intro wy hSw
            obtain ⟨hS0, hS1, hS2, hS3, hS4⟩ := hSw
            go_simp
            try with_reducible rfl
          try simp only [Act.put, List.getElem_toArray, List.getElem_cons_succ, List.getElem_cons_zero, List.setIfInBounds_toArray, List.set_cons_zero, List.set_cons_succ]
          refine wpAnyH_take (i := 7) (v := ?_) rfl (by kernel_rfl) (by kernel_rfl) (by kernel_rfl) (fun _ _ _ h => h) (Or.inl ⟨by rfl, ?_⟩) (by assumption) ?_
          rotate_left
          · intro wy hSw
            obtain ⟨hS0, hS1, hS2, hS3, hS4⟩ := hSw
            go_simp
            try with_reducible rfl
          try simp only [Act.put, List.getElem_toArray, List.getElem_cons_succ, List.getElem_cons_zero, List.setIfInBounds_toArray, List.set_cons_zero, List.set_cons_succ]
          refine wpAnyH_take (i := 8) (v := ?_) rfl (by kernel_rfl) (by kernel_rfl) (by kernel_rfl) (fun _ _ _ h => h) (Or.inl ⟨by rfl, ?_⟩) (by assumption) ?_
          rotate_left
          · intro wy hSw
            obtain ⟨hS0, hS1, hS2, hS3, hS4⟩ := hSw
            go_simp
            try with_reducible rfl
          try simp only [Act.put, List.getElem_toArray, List.getElem_cons_succ, List.getElem_cons_zero, List.setIfInBounds_toArray, List.set_cons_zero, List.set_cons_succ]
          refine wpAnyH_take (i := 9) (v := ?_) rfl (by kernel_rfl) (by kernel_rfl) (by kernel_rfl) (fun _ _ _ h => h) (Or.inl ⟨by rfl, ?_⟩) (by assumption) ?_
          rotate_left
          · intro wy hSw
            obtain ⟨hS0, hS1, hS2, hS3, hS4⟩ := hSw
            go_simp
            try with_reducible rfl
          try simp only [Act.put, List.getElem_toArray, List.getElem_cons_succ, List.getElem_cons_zero, List.setIfInBounds_toArray, List.set_cons_zero, List.set_cons_succ]
          refine wpAnyH_ready (rs := [11]) (by kernel_rfl) (by simp) ?_
          refine AllReadyH.cons rfl (fun K hK => ?_) AllReadyH.nil
          have rf0 := (unhide HBB).frozen 0
          have rf1 := (unhide HBB).frozen 1
          have r0 := (unhide HBB).cell (i := 0) rfl
          have r1 := (unhide HBB).cell (i := 1) rfl
          have HBN := hide (((unhide HBB).set 0 (.int .i64 H) (by simp)).set 1 (.slice oa2 on2 oc2) (by simp))
          have HKS : Hid (Kept (fun b => b = gn) v8 ((v8.setCell ⟨gn, 0, none⟩ (.int .i64 H)).setCell ⟨gn, 1, none⟩ (.slice oa2 on2 oc2))) := ((Kept.refl (fun b => b = gn) _).setCell (p := ⟨gn, 0, none⟩) rfl _).setCell (p := ⟨gn, 1, none⟩) rfl _
          have hWB := unhide HW
          have HRS : Hid (∀ V, Kept (fun b => b < wr.heap.size) ((v8.setCell ⟨gn, 0, none⟩ (.int .i64 H)).setCell ⟨gn, 1, none⟩ (.slice oa2 on2 oc2)) V → RowsIn V (.slice oa2 on2 oc2) E1) := fun V hV => unhide HIN V (((unhide HKS).mono (fun k _ e => by (have e : k = gn := e); show k < _; omega)).trans (hV.mono (fun k _ e => by (have e : k < wr.heap.size := e); show k < _; omega)))
          replace HW := hide (below_keptS hWB (unhide HKS) hWB.size (fun b e => by omega))
          replace HA := hide ((unhide HA).kept (unhide HKS) (by omega))
          replace HC := hide ((unhide HC).kept (unhide HKS) (by omega))
          replace HY0 := hide ((unhide HY0).kept (unhide HKS) (by show ¬ bo = gn; omega))
          replace HY1 := hide ((unhide HY1).kept (unhide HKS) (by show ¬ bo = gn; omega))
          replace HY2 := hide ((unhide HY2).kept (unhide HKS) (by show ¬ bo = gn; omega))
          replace HRB := hide ((unhide HRB).kept (unhide HKS) (fun g e _ _ => by simp only [Option.some.injEq, Addr.mk.injEq, and_true] at e; exact hcn g e))
          go_simp
          clear rf0 rf1 r0 r1 hWB
          refine hK.out _ _ ⟨(unhide HC).cell (i := 0) rfl, (unhide HC).cell (i := 1) rfl, unhide HY0, unhide HY1, unhide HY2⟩ (fun hHeld => ?_)
          clear hK K
          try simp only [Act.put, List.setIfInBounds_toArray, List.set_cons_zero, List.set_cons_succ]
          refine wpAnyH_take (i := 12) (v := ?_) rfl (by kernel_rfl) (by kernel_rfl) (by kernel_rfl) (fun _ _ _ h => h) (Or.inl ⟨by rfl, ?_⟩) (by assumption) ?_
          rotate_left
          · intro wy hSw
            obtain ⟨hS0, hS1, hS2, hS3, hS4⟩ := hSw
            go_simp
            try with_reducible rfl
          try simp only [Act.put, List.getElem_toArray, List.getElem_cons_succ, List.getElem_cons_zero, List.setIfInBounds_toArray, List.set_cons_zero, List.set_cons_succ]
          refine wpAnyH_take (i := 13) (v := ?_) rfl (by kernel_rfl) (by kernel_rfl) (by kernel_rfl) (fun _ _ _ h => h) (Or.inl ⟨by rfl, ?_⟩) (by assumption) ?_
          rotate_left
          · intro wy hSw
            obtain ⟨hS0, hS1, hS2, hS3, hS4⟩ := hSw
            go_simp
            try with_reducible rfl
          try simp only [Act.put, List.getElem_toArray, List.getElem_cons_succ, List.getElem_cons_zero, List.setIfInBounds_toArray, List.set_cons_zero, List.set_cons_succ]
          refine wpAnyH_done (by kernel_rfl) ?_ _
          go_wp2_with fail
          go_meet
          exact ⟨gn, oa2, on2, oc2, rfl, rfl, rfl, hgn, hcn, HW, HA, HC, HBN, HRS, HRB⟩
      case rest =>
        obtain ⟨gn, oa2, on2, oc2, rfl, rfl, rfl, hgn, hcn, HW2, HA2, HC2, HM, HRS, HR2⟩ := hcut
        have hgbw := (unhide HC).lt
        have hcow : co < wr.heap.size := ((unhide HRB).mono (Nat.zero_le _)).ownG (by omega) |>.2.2.2.1
        clear HW HA HC HRB HY0 HY1 HY2 HST HDQ
        have n0 := (unhide HM).cell (i := 0) rfl
        have n1 := (unhide HM).cell (i := 1) rfl
        have q0 := (unhide HC2).cell (i := 0) rfl
        have q1 := (unhide HC2).cell (i := 1) rfl
        have qf0 := (unhide HC2).frozen 0
        have qf1 := (unhide HC2).frozen 1
        have hngb : ¬ gn = gb := by omega
        go_upto_region 9 with (fail)
        obtain ⟨V5, eV5⟩ : ∃ z, z = (wc.setCell ⟨gb, 0, none⟩ (.int .i64 H)).setCell ⟨gb, 1, none⟩ (.slice oa2 on2 oc2) := ⟨_, rfl⟩
        have hK : Kept (fun b => b = gb) wc V5 := by rw [eV5]; exact ((Kept.refl (fun b => b = gb) _).setCell (p := ⟨gb, 0, none⟩) rfl _).setCell (p := ⟨gb, 1, none⟩) rfl _
        have HC := hide (show OwnV V5 gb [.int .i64 H, .slice oa2 on2 oc2] by rw [eV5]; exact ((unhide HC2).set 0 (.int .i64 H) (by simp)).set 1 (.slice oa2 on2 oc2) (by simp))
        rw [← eV5]
        have hWB := unhide HW2
        have HW := hide (below_keptS hWB hK hWB.size (fun b e => by omega))
        have HA := hide ((unhide HA2).kept hK (by omega))
        have HRB := hide ((unhide HR2).kept hK (fun g e hB _ => by omega))
        have HKA : Hid (Kept (fun b => b < wr.heap.size) wc V5) := hK.mono (fun k _ e => by (have e : k = gb := e); show k < _; omega)
        clear eV5 hK hWB HW2 HA2 HC2 HM HR2 n0 n1 q0 q1 qf0 qf1
        have A5 := Below.alloc1 V5 (.cells #[.int .i64 E3] 3)
        have HG := hide (ownV_alloc V5 #[.int .i64 E3] 3)
        replace HW := hide (Below.step (unhide HW) A5)
        replace HA := hide ((unhide HA).step A5)
        replace HC := hide ((unhide HC).step A5)
        replace HRB := hide ((unhide HRB).below A5)
        replace HKA := hide ((unhide HKA).trans (kept_of_below A5))
        have hsm : IntKind.i64.wrap (sm + E2) = sm + E2 := by rw [IntKind.wrap_i64]; omega
        have HSM : Hid ((stY H R L (k + 1)).2 = sm + E2) := by show _ = _; rw [unhide HSU]
        have HE1 : Hid (E1 = (stY H R L (k + 1)).1) := by show _ = _; rw [unhide HSU]
        have HCS : Hid (cdsY H R L k ++ [E3] = cdsY H R L (k + 1)) := by show _ = _; rw [cds_succ, unhide HCU]
        have hB5 : gb + 1 ≤ (V5.alloc (.cells #[.int .i64 E3] 3)).heap.size := (unhide HC).lt
        clear A5
        go_wp2_with (at_builtin; go_must (refine wpList_appRow tyI _ rfl (.tmp 42) (.tmp 44) rfl (gb + 1) (some ⟨co, 0, none⟩) k cc (cdsY H R L k) rfl (unhide HRB) hB5 (by omega) V5.heap.size E3 1 rfl (unhide HG) ?_); intro g' cap' w' hL hKp hBg hat; have HL2 := hide hL; have HKP := hide hKp; clear hL hKp hat hBg)
        have hco : ∀ q, (some ⟨co, 0, none⟩ : Option Addr) = some ⟨q, 0, none⟩ → q = co := fun q e => by simp only [Option.some.injEq, Addr.mk.injEq, and_true] at e; exact e.symm
        have hcog := ((unhide HRB).parts (by omega))
        have hcob : gb + 1 ≤ co := by
          rcases hcog with ⟨e, _⟩ | ⟨g9, e, hB9, _⟩
          · cases e
          · simp only [Option.some.injEq, Addr.mk.injEq, and_true] at e; omega
        have HA9 := hide ((unhide HA).kept (unhide HKP) (fun e => by have := hco _ e; omega))
        have HC9 := hide ((unhide HC).kept (unhide HKP) (fun e => by have := hco _ e; omega))
        have hWB := unhide HW
        have HW9 := hide (below_keptS hWB (unhide HKP) hWB.size (fun b e => by have := hco _ e; omega))
        have HST9 : Hid (∀ V, Kept (fun b => b ≤ g0 + 1) w' V → RowsIn V (.slice oa2 on2 oc2) (stY H R L (k + 1)).1) := fun V hV => by
          have h1 := unhide HRS V (((unhide HKA).trans ((unhide HKP).mono (fun q _ e => by have := hco _ e; show q < _; omega))).trans (hV.mono (fun q _ e => by (have e : q ≤ g0 + 1 := e); show q < _; omega)))
          rw [unhide HE1] at h1
          exact h1
        rw [unhide HCS] at HL2
        clear hcog hWB HW HA HC HRB HG HKA HKP HRS
        go_roundg (L.length - (k + 1))
        case measure => omega
        case rel => exact ⟨k + 1, oa2, on2, oc2, g', cap', by omega, rfl, rfl, by rw [unhide HSM], by go_num, HW9, HA9, HC9, HST9, HL2⟩
    · have hkk : k = L.length := by omega
      subst hkk
      have nkk : ¬ ((L.length : Int) < (L.length : Int)) := by omega
      have hcob : gb + 1 ≤ co := by
        rcases (unhide HRB).parts (by omega) with ⟨e, _⟩ | ⟨g9, e, hB9, _⟩
        · cases e
        · simp only [Option.some.injEq, Addr.mk.injEq, and_true] at e; omega
      have c0 := (unhide HC).cell (i := 0) rfl
      have c1 := (unhide HC).cell (i := 1) rfl
      have HKS : Hid (Kept (fun b => b = g0 + 1) wr ((wr.setCell ⟨g0 + 1, 0, none⟩ (.int .i64 H)).setCell ⟨g0 + 1, 1, none⟩ (.slice oa on oc))) := ((Kept.refl (fun b => b = g0 + 1) _).setCell (p := ⟨g0 + 1, 0, none⟩) rfl _).setCell (p := ⟨g0 + 1, 1, none⟩) rfl _
      have rf0 := (unhide HA).frozen 0
      have rf1 := (unhide HA).frozen 1
      have r0 := (unhide HA).cell (i := 0) rfl
      have r1 := (unhide HA).cell (i := 1) rfl
      have f0 := (((unhide HA).set 0 (.int .i64 H) (by simp)).set 1 (.slice oa on oc) (by simp)).cell (i := 0) rfl
      have f1 := (((unhide HA).set 0 (.int .i64 H) (by simp)).set 1 (.slice oa on oc) (by simp)).cell (i := 1) rfl
      have hWB : Below w.heap.size w wr := unhide HW
      have eD3 := congrArg (fun z => z.2.2) (unhide HD)
      dsimp only at eD3
      rw [← eD3]
      clear eD3
      go_wp2
      refine bodyPost_ret (v := .tuple #[.agg #[.int .i64 H, .slice oa on oc], .slice (some ⟨co, 0, none⟩) L.length cc, .int .i64 D3]) (by simp [results, Try.results32, go_sem, f0, f1]) rfl ?_
      have eD := unhide HD
      simp only [Prod.mk.injEq] at eD
      obtain ⟨e1, e2, -⟩ := eD
      exact ⟨_, _, _, _, _, _, rfl, by dsimp only; rw [e1]; exact unhide HST _ ((unhide HKS).mono (fun k _ e => by (have e : k = g0 + 1 := e); show k ≤ g0 + 1; omega)), by dsimp only; rw [e2]; exact recsI (((unhide HRB).kept (unhide HKS) (fun g e hB _ => by (show ¬ g = g0 + 1); omega)).recs (by omega)), below_keptS hWB (unhide HKS) hWB.size (fun b e => by omega)⟩

end Go.Proofs.Ytdiifkeebgdfkaa

namespace Go.Proofs.Ytdiifkeebgdfkaa
open Go.RowKit

theorem markInts_k (B U : Nat) (ao : Option Addr) (n cap : Nat) (xs : List Int) (k : Int) (w : World) (h : OwnIntsU B U w (.slice ao n cap) xs) (hn : xs.length ≤ 1048576) (hk0 : 0 ≤ k) (hk1 : k ≤ 4611686018427387904) :
    Calls Try.prog 37 #[.slice ao n cap, .int .i64 k] w fun e w' => e = .returned (.int .i64 (k + xs.length)) ∧ Kept (fun b => B ≤ b ∧ b < U) w w' ∧ OwnIntsU B U w' (.slice ao n cap) (marks k xs.length) := by
  obtain ⟨ao', cap', e, h1, h2, h3⟩ := h
  simp only [Value.slice.injEq] at e
  obtain ⟨rfl, rfl, rfl⟩ := e
  by_cases hne : xs = []
  · subst hne
    refine (markIntS_any ao cap [] k 0 w (fun h => absurd rfl h) hn hk0 hk1).mono ?_
    rintro e w' ⟨rfl, hk, _⟩
    exact ⟨rfl, hk.mono (fun b _ hb => absurd rfl hb.2), ao, cap, by rw [marks_len], by rw [marks_len]; exact h1, h2, fun h => absurd rfl h⟩
  · obtain ⟨g, rfl, hg, hu, ho⟩ := h3 hne
    refine (markIntS_any _ cap xs k g w (fun _ => ⟨rfl, ho⟩) hn hk0 hk1).mono ?_
    rintro e w' ⟨rfl, hk, ho'⟩
    exact ⟨rfl, hk.mono (fun b _ hb => by rw [hb.1]; exact ⟨hg, hu⟩), _, cap, by rw [marks_len], by rw [marks_len]; exact h1, h2, fun _ => ⟨g, rfl, hg, hu, ho' hne⟩⟩
theorem heldInts_k (v : Value) (n : Nat) (k : Int) (W : World) (hW : IntsIn W v (marks k n)) (hn : n ≤ 1048576) (hk0 : 0 ≤ k) (hk1 : k ≤ 4611686018427387904) :
    Calls Try.prog 38 #[v, .int .i64 k] W fun e w' => e = .returned (.int .i64 (k + (n : Int))) ∧ Below W.heap.size W w' := by
  refine (heldIntS_any v (marks k n) k W hW (by rw [marks_len]) (by rw [marks_len]; exact hn) hk0 hk1).mono ?_
  rintro e w' ⟨rfl, rfl⟩
  rw [marks_len]
  exact ⟨rfl, Below.refl _ _⟩
theorem eqIntS_c (v v' : Value) (xs : List Int) (w : World) (h : IntsIn w v xs) (h' : IntsIn w v' xs) :
    Calls Try.prog 34 #[v, v'] w fun e w' => e = .returned (.bool true) ∧ Below w.heap.size w w' := by
  refine (eqIntS_any v v' xs w h h').mono ?_
  rintro e w' ⟨rfl, n, rfl⟩
  exact ⟨rfl, below_drewN (Below.refl _ _) n⟩

set_option maxRecDepth 1000000 in
set_option maxHeartbeats 16000000 in
theorem lawRunYard_any (s0 : Int) (pv : Value) (R : List (List Int)) (ov : Value) (L : List YardOpT) (w : World) (h : RowsIn w pv R) (ho : RYardOp w ov L) :
    Calls Try.prog 8 #[yardV s0 pv, ov] w fun e w' => e = .returned (.bool true) ∧ Below w.heap.size w w' := by
  have HV := hide h
  obtain ⟨ao, cap, rfl, hc1, hc2⟩ := rows_cap h
  clear h
  have HVO := hide ho
  obtain ⟨oo, ocap, rfl, -⟩ := ho
  have HTO0 := hide fun V (hb : Below w.heap.size w V) hs hl => toYard_any s0 (.slice ao R.length cap) R V ((unhide HV).below hb) hs hl
  have HSZ := hide fun V (hb : Below w.heap.size w V) => szYard_any s0 (.slice ao R.length cap) R V ((unhide HV).below hb)
  have HSO := hide fun V (hV : Below w.heap.size w V) l h0 h1 => szYardOpS_any _ L l V ((unhide HVO).below hV) h0 h1
  have HTP0 := hide fun V (hV : Below w.heap.size w V) hs => toYardOpS_any _ L V ((unhide HVO).below hV) hs
  have HSP0 := hide fun V v ov (hV : RowsIn V v R) (hO : RYardOp V ov L) h1 h2 h3 => specRunYard_any s0 v R ov L V hV hO h1 h2 h3
  have HIP0 := hide fun V v ov (hV : RowsIn V v R) (hO : RYardOp V ov L) h1 h2 h3 => implRunYard_any s0 v R ov L V hV hO h1 h2 h3
  have HDR0 := hide fun hl => rn_rows (H := s0) (R := R) L hl
  have hDR := rn_len s0 R L
  have hCl := rn_codes s0 R L
  obtain ⟨⟨D1, D2, D3⟩, eD⟩ : ∃ D, D = rnY s0 R L := ⟨_, rfl⟩
  rw [← eD] at HSP0 HIP0 HDR0 hDR hCl
  dsimp only at hDR hCl HDR0
  have HDL := hide hDR
  clear eD hDR
  have hd3 : (D3 != D3) = false := by simp
  unfold yardV at HSZ HTO0 HSP0 HIP0 ⊢
  go_enter Try.func8, Try.ntmps8
  go_upto_region 2 with (fail)
  obtain ⟨g0, eg0⟩ : ∃ z, z = w.heap.size := ⟨_, rfl⟩
  obtain ⟨W0, eW⟩ : ∃ z, z = w.alloc (.cells #[.int .i64 s0, .slice ao R.length cap] 45) := ⟨_, rfl⟩
  have HW : Hid (Below w.heap.size w W0) := by rw [eW]; exact Below.alloc1 _ _
  have HB : Hid (OwnV W0 g0 [.int .i64 s0, .slice ao R.length cap]) := by rw [eW, eg0]; exact ownV_alloc _ _ _
  rw [← eW, ← eg0]
  have hg0 : w.heap.size ≤ g0 := by omega
  clear eW eg0
  have b0 := (unhide HB).cell (i := 0) rfl
  have b1 := (unhide HB).cell (i := 1) rfl
  go_wp2_with fail
  refine (unhide HSZ _ (unhide HW)).mono ?_
  rintro e v0 ⟨l0, rfl, hs, hb⟩
  replace HW := hide (Below.step (unhide HW) hb)
  replace HB := hide (OwnV.step (unhide HB) hb)
  clear hb b0 b1 HSZ
  obtain ⟨hp0, hq0, hs⟩ := hs
  have HS := hide hs
  clear hs
  by_cases hneg0 : l0 < 0
  · clear HS
    go_wp2
    go_ret
    exact ⟨rfl, unhide HW⟩
  obtain ⟨hsn, hsl⟩ := unhide HS (by omega)
  have HL := hide hsl
  have HDR := hide (unhide HDR0 hsl)
  clear hsl HS HDR0
  have hDl : D1.length ≤ 1048576 := by have := unhide HDL; omega
  go_wp2_with fail
  refine (unhide HSO _ (unhide HW) _ (by omega) (by omega)).mono ?_
  rintro e v00 ⟨l1, rfl, ⟨hs0, hs1, hs2⟩, hb⟩
  replace HW := hide (Below.step (unhide HW) hb)
  replace HB := hide (OwnV.step (unhide HB) hb)
  have HR := hide hs2
  clear hb hs2 HSO
  by_cases hneg1 : l1 < 0
  · go_wp2
    go_ret
    exact ⟨rfl, unhide HW⟩
  have hOl : L.length ≤ 1048576 := unhide HR (by omega)
  clear HR
  have HTO := hide fun V hV => unhide HTO0 V hV hsn (unhide HL)
  have HTP := hide fun V hV => unhide HTP0 V hV hOl
  have HSP := hide fun V v ov hV hO => unhide HSP0 V v ov hV hO hsn (unhide HL) hOl
  have HIP := hide fun V v ov hV hO => unhide HIP0 V v ov hV hO hsn (unhide HL) hOl
  have HOm : Hid (L.length ≤ maxLen) := by show _ ≤ _; unfold maxLen; omega
  clear HTO0 HTP0 HSP0 HIP0
  have b0 := (unhide HB).cell (i := 0) rfl
  have b1 := (unhide HB).cell (i := 1) rfl
  go_wp2_with fail
  refine (unhide HTO _ (unhide HW)).mono ?_
  rintro e v1 ⟨g7, G7, C7, rfl, ho7, hb⟩
  replace HW := hide (Below.step (unhide HW) hb)
  replace HB := hide (OwnV.step (unhide HB) hb)
  have HK1 := hide (OwnRows.rowsIn ho7 (Nat.le_refl _) (by unfold maxLen; omega))
  clear hb ho7 b0 b1
  go_wp2_with fail
  refine (unhide HTP _ (unhide HW)).mono ?_
  rintro e v2 ⟨go1, rfl, -, ho1, hb⟩
  replace HW := hide (Below.step (unhide HW) hb)
  replace HB := hide (OwnV.step (unhide HB) hb)
  replace HK1 := hide ((unhide HK1).below hb)
  have HR1 := hide (OwnV.recsIn ho1 (Nat.le_refl _) (unhide HOm))
  clear hb ho1
  go_wp2_with fail
  refine (unhide HSP _ _ _ (unhide HK1) (unhide HR1)).mono ?_
  rintro e v3 hA
  obtain ⟨bo, bn, bc, wo, wn, wc0, rfl, hin0, hci, hb⟩ := hA
  dsimp only at hin0 hci
  obtain rfl : bn = D1.length := by obtain ⟨_, _, e, -⟩ := hin0; simp only [Value.slice.injEq] at e; exact e.2.1
  obtain rfl : wn = D2.length := by obtain ⟨_, _, e, -⟩ := hci; simp only [Value.slice.injEq] at e; exact e.2.1
  unfold yardV
  dsimp only
  replace HW := hide (Below.step (unhide HW) hb)
  replace HB := hide (OwnV.step (unhide HB) hb)
  clear hb HK1 HR1 HSP
  have HKW := hide hin0
  have HCW := hide hci
  clear hin0 hci
  have hlw := (unhide HB).lt
  obtain ⟨VA, eW2⟩ : ∃ z, z = v3.alloc (.cells #[.int .i64 s0, .slice bo D1.length bc] 26) := ⟨_, rfl⟩
  have hb := Below.alloc1 v3 (.cells #[.int .i64 s0, .slice bo D1.length bc] 26)
  have Hgw := hide (ownV_alloc v3 #[.int .i64 s0, .slice bo D1.length bc] 26)
  have hsVA : v3.heap.size < VA.heap.size := by rw [eW2, World.size_alloc]; omega
  go_upto_region 9 with (fail)
  rw [← eW2] at hb Hgw ⊢
  clear eW2
  replace HW := hide (Below.step (unhide HW) hb)
  replace HB := hide (OwnV.step (unhide HB) hb)
  replace HKW := hide ((unhide HKW).below hb)
  replace HCW := hide ((unhide HCW).below hb)
  obtain ⟨gw, egw⟩ : ∃ z, z = v3.heap.size := ⟨_, rfl⟩
  rw [← egw] at Hgw ⊢
  have hgw1 : v3.heap.size ≤ gw := by omega
  have hgw2 : gw < VA.heap.size := by omega
  have hgw3 : gw ≤ v3.heap.size := by omega
  clear egw hb
  have HZ := hide (Below.refl VA.heap.size VA)
  have hgw : g0 < gw := by omega
  clear hlw hgw1 hgw3 hsVA
  have b0 := (unhide HB).cell (i := 0) rfl
  have b1 := (unhide HB).cell (i := 1) rfl
  go_wp2_with fail
  refine (unhide HTO _ (unhide HW)).mono ?_
  rintro e VB ⟨gr, Gr, Cr, rfl, ho, hb⟩
  replace HW := hide (Below.step (unhide HW) hb)
  replace HB := hide (OwnV.step (unhide HB) hb)
  replace Hgw := hide (OwnV.step (unhide Hgw) hb)
  replace HZ := hide (Below.step (unhide HZ) hb)
  have hVB := hb.size
  have HX := hide (OwnRows.upto ho hsn)
  clear hb b0 b1 ho
  obtain ⟨VC, eW2⟩ : ∃ z, z = VB.alloc (.cells #[.int .i64 s0, .slice (some ⟨gr, 0, none⟩) R.length R.length] 26) := ⟨_, rfl⟩
  have hb := Below.alloc1 VB (.cells #[.int .i64 s0, .slice (some ⟨gr, 0, none⟩) R.length R.length] 26)
  have Hgx := hide (ownV_alloc VB #[.int .i64 s0, .slice (some ⟨gr, 0, none⟩) R.length R.length] 26)
  have hsVC : VB.heap.size < VC.heap.size := by rw [eW2, World.size_alloc]; omega
  go_upto_region 10 with (fail)
  rw [← eW2] at hb Hgx ⊢
  clear eW2
  replace HW := hide (Below.step (unhide HW) hb)
  replace HB := hide (OwnV.step (unhide HB) hb)
  replace Hgw := hide (OwnV.step (unhide Hgw) hb)
  replace HZ := hide (Below.step (unhide HZ) hb)
  replace HX := hide ((unhide HX).below hb)
  obtain ⟨gx, egx⟩ : ∃ z, z = VB.heap.size := ⟨_, rfl⟩
  rw [← egx] at Hgx ⊢
  have hgx1 : VB.heap.size ≤ gx := by omega
  have hgx2 : gx < VC.heap.size := by omega
  have hgx3 : gx ≤ VB.heap.size := by omega
  clear egx hb
  go_wp2_with fail
  refine (unhide HTP _ (unhide HW)).mono ?_
  rintro e VD ⟨gq, rfl, hgq, hoq, hb⟩
  replace HW := hide (Below.step (unhide HW) hb)
  replace HB := hide (OwnV.step (unhide HB) hb)
  replace Hgw := hide (OwnV.step (unhide Hgw) hb)
  replace HZ := hide (Below.step (unhide HZ) hb)
  replace HX := hide ((unhide HX).below hb)
  replace Hgx := hide (OwnV.step (unhide Hgx) hb)
  have hVD := hb.size
  have HQ := hide hoq
  have hgq2 := hoq.lt
  clear hb hoq
  have c0 := (unhide Hgx).cell (i := 0) rfl
  have c1 := (unhide Hgx).cell (i := 1) rfl
  go_wp2_with fail
  refine (unhide HIP _ _ _ (unhide HX).inn (OwnV.recsIn (unhide HQ) (Nat.le_refl _) (unhide HOm))).mono ?_
  rintro e VE hA
  obtain ⟨yv, cv, B1, U1, B2, U2, gz, cz, co, cn, cc, rfl, ey, ec, hP2, hC2, hB1, hB2, hU1, hU2, hap, hb⟩ := hA
  dsimp only at ey ec hP2 hC2
  subst ey
  subst ec
  obtain rfl : cn = D2.length := by obtain ⟨_, _, e, -⟩ := hC2; simp only [Value.slice.injEq] at e; exact e.2.1
  unfold yardV
  dsimp only
  replace HW := hide (Below.step (unhide HW) hb)
  replace HB := hide (OwnV.step (unhide HB) hb)
  replace Hgw := hide (OwnV.step (unhide Hgw) hb)
  replace HZ := hide (Below.step (unhide HZ) hb)
  replace HX := hide ((unhide HX).below hb)
  replace Hgx := hide (OwnV.step (unhide Hgx) hb)
  replace HQ := hide (OwnV.step (unhide HQ) hb)
  have hVE := hb.size
  have HG := hide hP2
  have HC := hide hC2
  clear hb hP2 hC2 c0 c1
  obtain ⟨VF, eW2⟩ : ∃ z, z = VE.alloc (.cells #[.int .i64 s0, .slice (some ⟨gz, 0, none⟩) D1.length cz] 26) := ⟨_, rfl⟩
  have hb := Below.alloc1 VE (.cells #[.int .i64 s0, .slice (some ⟨gz, 0, none⟩) D1.length cz] 26)
  have Hgg := hide (ownV_alloc VE #[.int .i64 s0, .slice (some ⟨gz, 0, none⟩) D1.length cz] 26)
  have hsVF : VE.heap.size < VF.heap.size := by rw [eW2, World.size_alloc]; omega
  go_upto_region 12 with (fail)
  rw [← eW2] at hb Hgg ⊢
  clear eW2
  replace HW := hide (Below.step (unhide HW) hb)
  replace HB := hide (OwnV.step (unhide HB) hb)
  replace Hgw := hide (OwnV.step (unhide Hgw) hb)
  replace HZ := hide (Below.step (unhide HZ) hb)
  replace HX := hide ((unhide HX).below hb)
  replace Hgx := hide (OwnV.step (unhide Hgx) hb)
  replace HQ := hide (OwnV.step (unhide HQ) hb)
  replace HC := hide ((unhide HC).below hb)
  replace HG := hide ((unhide HG).below hb)
  obtain ⟨gg, egg⟩ : ∃ z, z = VE.heap.size := ⟨_, rfl⟩
  rw [← egg] at Hgg ⊢
  have hgg1 : VE.heap.size ≤ gg := by omega
  have hgg2 : gg < VF.heap.size := by omega
  have hgg3 : gg ≤ VE.heap.size := by omega
  clear egg hb
  have HEQ := hide fun v1 v2 V (h1 : RowsIn V v1 D1) (h2 : RowsIn V v2 D1) => eqYard_any s0 v1 v2 D1 V h1 h2
  unfold yardV at HEQ
  have HEI := hide fun v1 v2 V (h1 : IntsIn V v1 D2) (h2 : IntsIn V v2 D2) => eqIntS_c v1 v2 D2 V h1 h2
  have c0 := (unhide Hgg).cell (i := 0) rfl
  have c1 := (unhide Hgg).cell (i := 1) rfl
  have u0 := (unhide Hgw).cell (i := 0) rfl
  have u1 := (unhide Hgw).cell (i := 1) rfl
  have HKWd := hide ((unhide HKW).below (unhide HZ))
  have HCWd := hide ((unhide HCW).below (unhide HZ))
  go_wp2_with fail
  refine (unhide HEQ (.slice (some ⟨gz, 0, none⟩) D1.length cz) (.slice bo D1.length bc) _ (unhide HG).inn (unhide HKWd)).mono ?_
  rintro e VG ⟨rfl, hb⟩
  replace HW := hide (Below.step (unhide HW) hb)
  replace HB := hide (OwnV.step (unhide HB) hb)
  replace Hgw := hide (OwnV.step (unhide Hgw) hb)
  replace HZ := hide (Below.step (unhide HZ) hb)
  replace HX := hide ((unhide HX).below hb)
  replace Hgx := hide (OwnV.step (unhide Hgx) hb)
  replace HQ := hide (OwnV.step (unhide HQ) hb)
  replace HC := hide ((unhide HC).below hb)
  replace HG := hide ((unhide HG).below hb)
  replace Hgg := hide (OwnV.step (unhide Hgg) hb)
  replace HCWd := hide ((unhide HCWd).below hb)
  clear hb c0 c1 u0 u1 HKWd
  go_wp2_with fail
  refine (unhide HEI (.slice co D2.length cc) (.slice wo D2.length wc0) _ (unhide HC).inn (unhide HCWd)).mono ?_
  rintro e VH ⟨rfl, hb⟩
  replace HW := hide (Below.step (unhide HW) hb)
  replace HB := hide (OwnV.step (unhide HB) hb)
  replace Hgw := hide (OwnV.step (unhide Hgw) hb)
  replace HZ := hide (Below.step (unhide HZ) hb)
  replace HX := hide ((unhide HX).below hb)
  replace Hgx := hide (OwnV.step (unhide Hgx) hb)
  replace HQ := hide (OwnV.step (unhide HQ) hb)
  replace HC := hide ((unhide HC).below hb)
  replace HG := hide ((unhide HG).below hb)
  replace Hgg := hide (OwnV.step (unhide Hgg) hb)
  clear hb HCWd
  have b0 := (unhide HB).cell (i := 0) rfl
  have b1 := (unhide HB).cell (i := 1) rfl
  have x0 := (unhide Hgx).cell (i := 0) rfl
  have x1 := (unhide Hgx).cell (i := 1) rfl
  go_upto_region 14 with (fail)
  clear b0 b1 x0 x1
  obtain ⟨wd, ewd⟩ : ∃ z, z = VH.drew := ⟨_, rfl⟩
  have hb : Below VH.heap.size VH wd := by rw [ewd]; exact (Below.refl _ _).drew
  replace HW := hide (Below.step (unhide HW) hb)
  replace HB := hide (OwnV.step (unhide HB) hb)
  replace Hgw := hide (OwnV.step (unhide Hgw) hb)
  replace HZ := hide (Below.step (unhide HZ) hb)
  replace HX := hide ((unhide HX).below hb)
  replace Hgx := hide (OwnV.step (unhide Hgx) hb)
  replace HQ := hide (OwnV.step (unhide HQ) hb)
  replace HC := hide ((unhide HC).below hb)
  replace HG := hide ((unhide HG).below hb)
  replace Hgg := hide (OwnV.step (unhide Hgg) hb)
  clear hb
  refine wp_region_held_drew (S := fun w' => w'.cell? ⟨g0, 0, none⟩ = some (.int .i64 s0) ∧ w'.cell? ⟨g0, 1, none⟩ = some (.slice ao R.length cap) ∧ w'.cell? ⟨gx, 0, none⟩ = some (.int .i64 s0) ∧ w'.cell? ⟨gx, 1, none⟩ = some (.slice (some ⟨gr, 0, none⟩) R.length R.length)) (by kernel_rfl) ⟨by rw [← ewd]; exact (unhide HB).cell (i := 0) rfl, by rw [← ewd]; exact (unhide HB).cell (i := 1) rfl, by rw [← ewd]; exact (unhide Hgx).cell (i := 0) rfl, by rw [← ewd]; exact (unhide Hgx).cell (i := 1) rfl⟩ (fun hHeld => ?_)
  rw [← ewd] at hHeld ⊢
  clear ewd
  refine wpAnyH_take (i := 0) (v := ?_) rfl (by kernel_rfl) (by kernel_rfl) (by kernel_rfl) (fun _ _ _ h => h) (Or.inl ⟨by rfl, ?_⟩) (by assumption) ?_
  rotate_left
  · intro wy hSw
    obtain ⟨hS0, hS1, hS2, hS3⟩ := hSw
    go_simp
    try with_reducible rfl
  try simp only [Act.put, List.getElem_toArray, List.getElem_cons_zero, List.setIfInBounds_toArray, List.set_cons_zero, List.set_cons_succ]
  refine wpAnyH_take (i := 1) (v := ?_) rfl (by kernel_rfl) (by kernel_rfl) (by kernel_rfl) (fun _ _ _ h => h) (Or.inl ⟨by rfl, ?_⟩) (by assumption) ?_
  rotate_left
  · intro wy hSw
    obtain ⟨hS0, hS1, hS2, hS3⟩ := hSw
    go_simp
    try with_reducible rfl
  try simp only [Act.put, List.getElem_toArray, List.getElem_cons_succ, List.getElem_cons_zero, List.setIfInBounds_toArray, List.set_cons_zero, List.set_cons_succ]
  refine wpAnyH_ready (rs := [2]) (by kernel_rfl) (by simp) ?_
  refine AllReadyH.cons rfl (fun K hK => ?_) AllReadyH.nil
  go_simp
  refine (unhide HTO _ (unhide HW)).mono ?_
  rintro e VI ⟨g7, G7, C7, rfl, ho7, hb⟩
  replace HW := hide (Below.step (unhide HW) hb)
  replace HB := hide (OwnV.step (unhide HB) hb)
  replace Hgw := hide (OwnV.step (unhide Hgw) hb)
  replace HZ := hide (Below.step (unhide HZ) hb)
  replace HX := hide ((unhide HX).below hb)
  replace Hgx := hide (OwnV.step (unhide Hgx) hb)
  replace HQ := hide (OwnV.step (unhide HQ) hb)
  replace HC := hide ((unhide HC).below hb)
  replace HG := hide ((unhide HG).below hb)
  replace Hgg := hide (OwnV.step (unhide Hgg) hb)
  have HI := hide (OwnRows.rowsIn ho7 (Nat.le_refl _) (by unfold maxLen; omega))
  clear hb ho7
  refine hK.out _ _ ⟨(unhide HB).cell (i := 0) rfl, (unhide HB).cell (i := 1) rfl, (unhide Hgx).cell (i := 0) rfl, (unhide Hgx).cell (i := 1) rfl⟩ (fun hHeld => ?_)
  clear hK K
  try simp only [Act.put, List.setIfInBounds_toArray, List.set_cons_zero, List.set_cons_succ]
  refine wpAnyH_ready (rs := [3]) (by kernel_rfl) (by simp) ?_
  refine AllReadyH.cons rfl (fun K hK => ?_) AllReadyH.nil
  have HEE := hide (eqYard_any s0 (.slice (some ⟨gr, 0, none⟩) R.length R.length) (.slice (some ⟨g7, 0, none⟩) R.length R.length) R VI (unhide HX).inn (unhide HI))
  unfold yardV at HEE
  go_simp
  refine (unhide HEE).mono ?_
  rintro e VI2 ⟨rfl, hb⟩
  replace HW := hide (Below.step (unhide HW) hb)
  replace HB := hide (OwnV.step (unhide HB) hb)
  replace Hgw := hide (OwnV.step (unhide Hgw) hb)
  replace HZ := hide (Below.step (unhide HZ) hb)
  replace HX := hide ((unhide HX).below hb)
  replace Hgx := hide (OwnV.step (unhide Hgx) hb)
  replace HQ := hide (OwnV.step (unhide HQ) hb)
  replace HC := hide ((unhide HC).below hb)
  replace HG := hide ((unhide HG).below hb)
  replace Hgg := hide (OwnV.step (unhide Hgg) hb)
  clear hb HEE HI
  refine hK.out _ _ ⟨(unhide HB).cell (i := 0) rfl, (unhide HB).cell (i := 1) rfl, (unhide Hgx).cell (i := 0) rfl, (unhide Hgx).cell (i := 1) rfl⟩ (fun hHeld => ?_)
  clear hK K
  try simp only [Act.put, List.setIfInBounds_toArray, List.set_cons_zero, List.set_cons_succ]
  refine wpAnyH_take (i := 4) (v := ?_) rfl (by kernel_rfl) (by kernel_rfl) (by kernel_rfl) (fun _ _ _ h => h) (Or.inl ⟨by rfl, ?_⟩) (by assumption) ?_
  rotate_left
  · intro wy hSw
    obtain ⟨hS0, hS1, hS2, hS3⟩ := hSw
    go_simp
    try with_reducible rfl
  try simp only [Act.put, List.getElem_toArray, List.getElem_cons_succ, List.getElem_cons_zero, List.setIfInBounds_toArray, List.set_cons_zero, List.set_cons_succ]
  refine wpAnyH_done (by kernel_rfl) ?_ _
  go_wp2_with fail
  refine (unhide HTP _ (unhide HW)).mono ?_
  rintro e VJ ⟨go1, rfl, -, ho1, hb⟩
  replace HW := hide (Below.step (unhide HW) hb)
  replace HB := hide (OwnV.step (unhide HB) hb)
  replace Hgw := hide (OwnV.step (unhide Hgw) hb)
  replace HZ := hide (Below.step (unhide HZ) hb)
  replace HX := hide ((unhide HX).below hb)
  replace Hgx := hide (OwnV.step (unhide Hgx) hb)
  replace HQ := hide (OwnV.step (unhide HQ) hb)
  replace HC := hide ((unhide HC).below hb)
  replace HG := hide ((unhide HG).below hb)
  replace Hgg := hide (OwnV.step (unhide Hgg) hb)
  have HR1 := hide (OwnV.recsIn ho1 (Nat.le_refl _) (unhide HOm))
  clear hb ho1
  go_wp2_with fail
  refine (eqYardOpS_any _ _ L _ (OwnV.recsIn (unhide HQ) (Nat.le_refl _) (unhide HOm)) (unhide HR1)).mono ?_
  rintro e VK ⟨rfl, hb⟩
  replace HW := hide (Below.step (unhide HW) hb)
  replace HB := hide (OwnV.step (unhide HB) hb)
  replace Hgw := hide (OwnV.step (unhide Hgw) hb)
  replace HZ := hide (Below.step (unhide HZ) hb)
  replace HX := hide ((unhide HX).below hb)
  replace Hgx := hide (OwnV.step (unhide Hgx) hb)
  replace HQ := hide (OwnV.step (unhide HQ) hb)
  replace HC := hide ((unhide HC).below hb)
  replace HG := hide ((unhide HG).below hb)
  replace Hgg := hide (OwnV.step (unhide Hgg) hb)
  clear hb HR1
  have HM1 := hide fun V (hV : OwnRowsU VA.heap.size VB.heap.size V (.slice (some ⟨gr, 0, none⟩) R.length R.length) R) => markYard_v s0 VA.heap.size VB.heap.size _ _ _ R V hV hsn (unhide HL)
  have HM2 := hide fun V (hV : OwnRowsU B1 U1 V (.slice (some ⟨gz, 0, none⟩) D1.length cz) D1) => markYard_v s0 B1 U1 _ _ _ D1 V hV hDl (unhide HDR)
  have HH2 := hide fun V (hV : OwnRowsU B1 U1 V (.slice (some ⟨gz, 0, none⟩) D1.length cz) (mrows 1 D1)) => heldYard_v s0 (.slice (some ⟨gz, 0, none⟩) D1.length cz) D1 V hV.inn hDl (unhide HDR)
  unfold yardV at HM1 HM2 HH2
  have hpk := pre_le (unhide HL) R.length (Nat.le_refl _)
  have hpm := pre_le (unhide HDR) D1.length (Nat.le_refl _)
  obtain ⟨N1, eN1⟩ : ∃ z : Int, z = 1 + (pre R R.length : Int) := ⟨_, rfl⟩
  obtain ⟨N2, eN2⟩ : ∃ z : Int, z = 1 + (pre D1 D1.length : Int) := ⟨_, rfl⟩
  have hn1 : 0 ≤ N1 ∧ N1 ≤ 1152921504606846976 := by omega
  have hn2 : 0 ≤ N2 ∧ N2 ≤ 1152921504606846976 := by omega
  rw [← eN1] at HM1
  rw [← eN2] at HM2 HH2
  clear eN1 eN2 hpk hpm
  have HMO := hide fun V hV => markYardOpS_any gq L.length L.length (recCells 3 eYardOp L) N1 V hV (by rw [recCells_length]; exact Nat.le_refl _) hOl hn1.1 hn1.2
  have HMC := hide fun V (hV : OwnIntsU B2 U2 V (.slice co D2.length cc) D2) => markInts_k B2 U2 co D2.length cc D2 N2 V hV (by omega) hn2.1 (Int.le_trans hn2.2 (by decide))
  have HHC := hide fun V (hV : OwnIntsU B2 U2 V (.slice co D2.length cc) (marks N2 D2.length)) => heldInts_k (.slice co D2.length cc) D2.length N2 V hV.inn (by omega) hn2.1 (Int.le_trans hn2.2 (by decide))
  have hm1 : 0 ≤ N1 + 3 * (L.length : Int) := by have := hn1.1; omega
  have hm2 : 0 ≤ N2 + (D2.length : Int) := by have := hn2.1; omega
  obtain ⟨M1, eM1⟩ : ∃ z, z = N1 + 3 * (L.length : Int) := ⟨_, rfl⟩
  obtain ⟨M2, eM2⟩ : ∃ z, z = N2 + (D2.length : Int) := ⟨_, rfl⟩
  rw [← eM1] at hm1 HMO
  rw [← eM2] at hm2 HMC HHC
  have dn1 : decide (M1 < 0) = false := by simp; omega
  have dn2 : decide (N2 < 0) = false := by have := hn2.1; simp; omega
  have dn3 : decide (M2 < 0) = false := by simp; omega
  have hnn : (M2 != M2) = false := by simp
  clear eM1 eM2 hn1 hn2
  have x0 := (unhide Hgx).cell (i := 0) rfl
  have x1 := (unhide Hgx).cell (i := 1) rfl
  go_wp2_with fail
  refine (unhide HM1 _ (unhide HX)).mono ?_
  rintro e VL ⟨rfl, hk, -⟩
  have hzVA := (unhide HZ).size
  clear HX
  have hWB := unhide HW
  replace HW := hide (hWB.trans (hk.below hWB.size (fun b e => by omega)))
  clear hWB
  replace HB := hide ((unhide HB).kept hk (fun e => by omega))
  replace Hgw := hide ((unhide Hgw).kept hk (fun e => by omega))
  have hWB := unhide HZ
  replace HZ := hide (hWB.trans (hk.below hWB.size (fun b e => by omega)))
  clear hWB
  replace Hgx := hide ((unhide Hgx).kept hk (fun e => by omega))
  replace HQ := hide ((unhide HQ).kept hk (fun e => by omega))
  replace HC := hide ((unhide HC).kept hk (fun b h1 h2 e => by omega))
  replace HG := hide ((unhide HG).kept hk (fun b h1 h2 e => by omega))
  replace Hgg := hide ((unhide Hgg).kept hk (fun e => by omega))
  clear hk x0 x1 HM1
  clear Hgx
  go_wp2_with fail
  refine (unhide HMO _ (unhide HQ)).mono ?_
  rintro e VM ⟨rfl, hk, -⟩
  clear HQ
  have hWB := unhide HW
  replace HW := hide (hWB.trans (hk.below hWB.size (fun b e => by omega)))
  clear hWB
  replace HB := hide ((unhide HB).kept hk (fun e => by omega))
  replace Hgw := hide ((unhide Hgw).kept hk (fun e => by omega))
  have hWB := unhide HZ
  replace HZ := hide (hWB.trans (hk.below hWB.size (fun b e => by omega)))
  clear hWB
  replace HC := hide ((unhide HC).kept hk (fun b h1 h2 e => by omega))
  replace HG := hide ((unhide HG).kept hk (fun b h1 h2 e => by omega))
  replace Hgg := hide ((unhide Hgg).kept hk (fun e => by omega))
  clear hk HMO
  have c0 := (unhide Hgg).cell (i := 0) rfl
  have c1 := (unhide Hgg).cell (i := 1) rfl
  have u0 := (unhide Hgw).cell (i := 0) rfl
  have u1 := (unhide Hgw).cell (i := 1) rfl
  have HKWd := hide ((unhide HKW).below (unhide HZ))
  have HCWd := hide ((unhide HCW).below (unhide HZ))
  go_wp2_with fail
  refine (unhide HEQ (.slice (some ⟨gz, 0, none⟩) D1.length cz) (.slice bo D1.length bc) _ (unhide HG).inn (unhide HKWd)).mono ?_
  rintro e VN ⟨rfl, hb⟩
  replace HW := hide (Below.step (unhide HW) hb)
  replace HB := hide (OwnV.step (unhide HB) hb)
  replace Hgw := hide (OwnV.step (unhide Hgw) hb)
  replace HZ := hide (Below.step (unhide HZ) hb)
  replace HC := hide ((unhide HC).below hb)
  replace HG := hide ((unhide HG).below hb)
  replace Hgg := hide (OwnV.step (unhide Hgg) hb)
  replace HCWd := hide ((unhide HCWd).below hb)
  clear hb c0 c1 u0 u1 HKWd
  go_wp2_with fail
  refine (unhide HEI (.slice co D2.length cc) (.slice wo D2.length wc0) _ (unhide HC).inn (unhide HCWd)).mono ?_
  rintro e VO ⟨rfl, hb⟩
  replace HW := hide (Below.step (unhide HW) hb)
  replace HB := hide (OwnV.step (unhide HB) hb)
  replace Hgw := hide (OwnV.step (unhide Hgw) hb)
  replace HZ := hide (Below.step (unhide HZ) hb)
  replace HC := hide ((unhide HC).below hb)
  replace HG := hide ((unhide HG).below hb)
  replace Hgg := hide (OwnV.step (unhide Hgg) hb)
  clear hb HCWd
  have c0 := (unhide Hgg).cell (i := 0) rfl
  have c1 := (unhide Hgg).cell (i := 1) rfl
  go_wp2_with fail
  refine (unhide HM2 _ (unhide HG)).mono ?_
  rintro e VP ⟨rfl, hk, hom⟩
  clear HG
  have hWB := unhide HW
  replace HW := hide (hWB.trans (hk.below hWB.size (fun b e => by omega)))
  clear hWB
  replace HB := hide ((unhide HB).kept hk (fun e => by omega))
  replace Hgw := hide ((unhide Hgw).kept hk (fun e => by omega))
  have hWB := unhide HZ
  replace HZ := hide (hWB.trans (hk.below hWB.size (fun b e => by omega)))
  clear hWB
  replace HC := hide ((unhide HC).kept hk (fun b h1 h2 e => by omega))
  replace Hgg := hide ((unhide Hgg).kept hk (fun e => by omega))
  have HGM := hide hom
  clear hk hom HM2 c0 c1
  go_wp2_with fail
  refine (unhide HMC _ (unhide HC)).mono ?_
  rintro e VQ ⟨rfl, hk, hom⟩
  clear HC
  have hWB := unhide HW
  replace HW := hide (hWB.trans (hk.below hWB.size (fun b e => by omega)))
  clear hWB
  replace HB := hide ((unhide HB).kept hk (fun e => by omega))
  replace Hgw := hide ((unhide Hgw).kept hk (fun e => by omega))
  have hWB := unhide HZ
  replace HZ := hide (hWB.trans (hk.below hWB.size (fun b e => by omega)))
  clear hWB
  replace Hgg := hide ((unhide Hgg).kept hk (fun e => by omega))
  replace HGM := hide ((unhide HGM).kept hk (fun b h1 h2 e => by omega))
  have HCM := hide hom
  clear hk hom HMC
  have c0 := (unhide Hgg).cell (i := 0) rfl
  have c1 := (unhide Hgg).cell (i := 1) rfl
  go_wp2_with fail
  refine (unhide HH2 _ (unhide HGM)).mono ?_
  rintro e VR ⟨rfl, hb⟩
  replace HW := hide (Below.step (unhide HW) hb)
  replace HB := hide (OwnV.step (unhide HB) hb)
  replace Hgw := hide (OwnV.step (unhide Hgw) hb)
  replace HZ := hide (Below.step (unhide HZ) hb)
  replace Hgg := hide (OwnV.step (unhide Hgg) hb)
  replace HGM := hide ((unhide HGM).below hb)
  replace HCM := hide ((unhide HCM).below hb)
  clear hb c0 c1
  go_wp2_with fail
  refine (unhide HHC _ (unhide HCM)).mono ?_
  rintro e VS ⟨rfl, hb⟩
  replace HW := hide (Below.step (unhide HW) hb)
  replace HB := hide (OwnV.step (unhide HB) hb)
  replace Hgw := hide (OwnV.step (unhide Hgw) hb)
  replace HZ := hide (Below.step (unhide HZ) hb)
  replace Hgg := hide (OwnV.step (unhide Hgg) hb)
  replace HGM := hide ((unhide HGM).below hb)
  replace HCM := hide ((unhide HCM).below hb)
  clear hb
  have b0 := (unhide HB).cell (i := 0) rfl
  have b1 := (unhide HB).cell (i := 1) rfl
  go_wp2_with fail
  refine (unhide HTO _ (unhide HW)).mono ?_
  rintro e y1 ⟨g7, G7, C7, rfl, ho7, hb⟩
  replace HW := hide (Below.step (unhide HW) hb)
  replace HB := hide (OwnV.step (unhide HB) hb)
  replace Hgw := hide (OwnV.step (unhide Hgw) hb)
  replace HZ := hide (Below.step (unhide HZ) hb)
  replace Hgg := hide (OwnV.step (unhide Hgg) hb)
  replace HGM := hide ((unhide HGM).below hb)
  replace HCM := hide ((unhide HCM).below hb)
  have HK1 := hide (OwnRows.rowsIn ho7 (Nat.le_refl _) (by unfold maxLen; omega))
  clear hb ho7 b0 b1
  go_wp2_with fail
  refine (unhide HTP _ (unhide HW)).mono ?_
  rintro e y2 ⟨go1, rfl, -, ho1, hb⟩
  replace HW := hide (Below.step (unhide HW) hb)
  replace HB := hide (OwnV.step (unhide HB) hb)
  replace Hgw := hide (OwnV.step (unhide Hgw) hb)
  replace HZ := hide (Below.step (unhide HZ) hb)
  replace Hgg := hide (OwnV.step (unhide Hgg) hb)
  replace HGM := hide ((unhide HGM).below hb)
  replace HCM := hide ((unhide HCM).below hb)
  replace HK1 := hide ((unhide HK1).below hb)
  have HR1 := hide (OwnV.recsIn ho1 (Nat.le_refl _) (unhide HOm))
  clear hb ho1
  go_wp2_with fail
  refine (unhide HIP _ _ _ (unhide HK1) (unhide HR1)).mono ?_
  rintro e y3 hA
  obtain ⟨yv, cv, B3, U3, B4, U4, hz, hc, ho, hn, hoc, rfl, ey, ec, hP2, hC2, -, -, -, -, -, hb⟩ := hA
  dsimp only at ey ec hP2 hC2
  subst ey
  subst ec
  obtain rfl : hn = D2.length := by obtain ⟨_, _, e, -⟩ := hC2; simp only [Value.slice.injEq] at e; exact e.2.1
  unfold yardV
  dsimp only
  replace HW := hide (Below.step (unhide HW) hb)
  replace HB := hide (OwnV.step (unhide HB) hb)
  replace Hgw := hide (OwnV.step (unhide Hgw) hb)
  replace HZ := hide (Below.step (unhide HZ) hb)
  replace Hgg := hide (OwnV.step (unhide Hgg) hb)
  replace HGM := hide ((unhide HGM).below hb)
  replace HCM := hide ((unhide HCM).below hb)
  have HKH := hide hP2.inn
  have HCH := hide hC2.inn
  clear hb hP2 hC2 HK1 HR1 HIP
  obtain ⟨VT, eW2⟩ : ∃ z, z = y3.alloc (.cells #[.int .i64 s0, .slice (some ⟨hz, 0, none⟩) D1.length hc] 26) := ⟨_, rfl⟩
  have hb := Below.alloc1 y3 (.cells #[.int .i64 s0, .slice (some ⟨hz, 0, none⟩) D1.length hc] 26)
  have Hgh := hide (ownV_alloc y3 #[.int .i64 s0, .slice (some ⟨hz, 0, none⟩) D1.length hc] 26)
  have hsVT : y3.heap.size < VT.heap.size := by rw [eW2, World.size_alloc]; omega
  go_upto_region 36 with (fail)
  rw [← eW2] at hb Hgh ⊢
  clear eW2
  replace HW := hide (Below.step (unhide HW) hb)
  replace HB := hide (OwnV.step (unhide HB) hb)
  replace Hgw := hide (OwnV.step (unhide Hgw) hb)
  replace HZ := hide (Below.step (unhide HZ) hb)
  replace Hgg := hide (OwnV.step (unhide Hgg) hb)
  replace HGM := hide ((unhide HGM).below hb)
  replace HCM := hide ((unhide HCM).below hb)
  replace HKH := hide ((unhide HKH).below hb)
  replace HCH := hide ((unhide HCH).below hb)
  obtain ⟨gh, egh⟩ : ∃ z, z = y3.heap.size := ⟨_, rfl⟩
  rw [← egh] at Hgh ⊢
  have hgh1 : y3.heap.size ≤ gh := by omega
  have hgh2 : gh < VT.heap.size := by omega
  have hgh3 : gh ≤ y3.heap.size := by omega
  clear egh hb
  have c0 := (unhide Hgh).cell (i := 0) rfl
  have c1 := (unhide Hgh).cell (i := 1) rfl
  have u0 := (unhide Hgw).cell (i := 0) rfl
  have u1 := (unhide Hgw).cell (i := 1) rfl
  have HKWd := hide ((unhide HKW).below (unhide HZ))
  have HCWd := hide ((unhide HCW).below (unhide HZ))
  go_wp2_with fail
  refine (unhide HEQ (.slice (some ⟨hz, 0, none⟩) D1.length hc) (.slice bo D1.length bc) _ (unhide HKH) (unhide HKWd)).mono ?_
  rintro e VU ⟨rfl, hb⟩
  replace HW := hide (Below.step (unhide HW) hb)
  replace HB := hide (OwnV.step (unhide HB) hb)
  replace Hgw := hide (OwnV.step (unhide Hgw) hb)
  replace HZ := hide (Below.step (unhide HZ) hb)
  replace Hgg := hide (OwnV.step (unhide Hgg) hb)
  replace HGM := hide ((unhide HGM).below hb)
  replace HCM := hide ((unhide HCM).below hb)
  replace HKH := hide ((unhide HKH).below hb)
  replace HCH := hide ((unhide HCH).below hb)
  replace Hgh := hide (OwnV.step (unhide Hgh) hb)
  replace HCWd := hide ((unhide HCWd).below hb)
  clear hb c0 c1 u0 u1 HKWd
  go_wp2_with fail
  refine (unhide HEI (.slice ho D2.length hoc) (.slice wo D2.length wc0) _ (unhide HCH) (unhide HCWd)).mono ?_
  rintro e VV ⟨rfl, hb⟩
  replace HW := hide (Below.step (unhide HW) hb)
  replace HB := hide (OwnV.step (unhide HB) hb)
  replace Hgw := hide (OwnV.step (unhide Hgw) hb)
  replace HZ := hide (Below.step (unhide HZ) hb)
  replace Hgg := hide (OwnV.step (unhide Hgg) hb)
  replace HGM := hide ((unhide HGM).below hb)
  replace HCM := hide ((unhide HCM).below hb)
  replace HKH := hide ((unhide HKH).below hb)
  replace HCH := hide ((unhide HCH).below hb)
  replace Hgh := hide (OwnV.step (unhide Hgh) hb)
  clear hb HCWd
  have c0 := (unhide Hgg).cell (i := 0) rfl
  have c1 := (unhide Hgg).cell (i := 1) rfl
  go_wp2_with fail
  refine (unhide HH2 _ (unhide HGM)).mono ?_
  rintro e VW ⟨rfl, hb⟩
  replace HW := hide (Below.step (unhide HW) hb)
  replace HB := hide (OwnV.step (unhide HB) hb)
  replace Hgw := hide (OwnV.step (unhide Hgw) hb)
  replace HZ := hide (Below.step (unhide HZ) hb)
  replace Hgg := hide (OwnV.step (unhide Hgg) hb)
  replace HGM := hide ((unhide HGM).below hb)
  replace HCM := hide ((unhide HCM).below hb)
  replace HKH := hide ((unhide HKH).below hb)
  replace HCH := hide ((unhide HCH).below hb)
  replace Hgh := hide (OwnV.step (unhide Hgh) hb)
  clear hb c0 c1
  go_wp2_with fail
  refine (unhide HHC _ (unhide HCM)).mono ?_
  rintro e VX ⟨rfl, hb⟩
  replace HW := hide (Below.step (unhide HW) hb)
  replace HB := hide (OwnV.step (unhide HB) hb)
  replace Hgw := hide (OwnV.step (unhide Hgw) hb)
  replace HZ := hide (Below.step (unhide HZ) hb)
  replace Hgg := hide (OwnV.step (unhide Hgg) hb)
  replace HGM := hide ((unhide HGM).below hb)
  replace HCM := hide ((unhide HCM).below hb)
  replace HKH := hide ((unhide HKH).below hb)
  replace HCH := hide ((unhide HCH).below hb)
  replace Hgh := hide (OwnV.step (unhide Hgh) hb)
  clear hb
  go_wp2
  go_ret
  exact ⟨rfl, unhide HW⟩

end Go.Proofs.Ytdiifkeebgdfkaa
