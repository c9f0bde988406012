/- The contract of slices.Repeat at one number. Written by wip/mkrep.py. -/
import Derived.Test.YtnapggchejdcgaaCpInt
import Derived.Test.YtnapggchejdcgaaSgA
import Derived.Test.YtnapggchejdcgaaKept
import Derived.Laws.BitsAllLaws
import Derived.Deep.RegionHeld3
namespace Go.Proofs.Ytnapggchejdcgaa
open Go.RowKit

theorem Kept.drewL {T : Nat → Prop} {w w' : World} (hk : Kept T w.drew w') : Kept T w w' := ⟨hk.os, hk.tape, hk.output, hk.size, hk.block⟩

set_option maxRecDepth 10000 in
set_option maxHeartbeats 1600000 in
theorem mul64_any (n : Nat) (w : World) (hn : n < 4294967296) :
    Calls Try.prog 123 #[.int .u64 1, .int .u64 n] w fun e w' => e = .returned (.tuple #[.int .u64 0, .int .u64 n]) ∧ w' = w := by
  have a1 : bits .and .u64 1 4294967295 = 1 := by decide
  have a2 : bits .and .u64 (n : Int) 4294967295 = (n : Int) := by
    rw [show ((4294967295 : Int)) = ((4294967295 : Nat) : Int) from rfl, u64_and_nat n 4294967295 (by omega) (by omega), nat_mask32]
    congr 1
    exact Nat.mod_eq_of_lt hn
  have a3 : bits .and .u64 0 4294967295 = 0 := by decide
  have d1 : (n : Int) / 4294967296 = 0 := by omega
  have w1 : IntKind.u64.wrap (n : Int) = (n : Int) := by rw [IntKind.wrap_u64]; omega
  go_enter Try.func123, Try.ntmps123
  go_wp2
  refine bodyPost_ret (v := .tuple #[.int .u64 0, .int .u64 n]) (by simp [results, Try.results123, go_sem, *]) rfl ⟨rfl, rfl⟩

set_option maxRecDepth 10000 in
set_option maxHeartbeats 1600000 in
theorem mul_any (n : Nat) (w : World) (hn : n < 4294967296) :
    Calls Try.prog 104 #[.int .u64 1, .int .u64 n] w fun e w' => e = .returned (.tuple #[.int .u64 0, .int .u64 n]) ∧ w' = w := by
  have HM := hide (mul64_any n w hn)
  go_enter Try.func104, Try.ntmps104
  go_wp2_with fail
  refine (unhide HM).mono ?_
  rintro e w' ⟨rfl, h9⟩
  have h8 := h9.symm
  subst h8
  clear h9
  go_wp2
  refine bodyPost_ret (v := .tuple #[.int .u64 0, .int .u64 n]) (by simp [results, Try.results104, go_sem]) rfl ⟨rfl, rfl⟩

/-- A piece of a row is copied behind itself. -/
theorem run_copy_self {P : Program} {w : World} (dT elem : TypeId) (hu : P.underlying dT = some (.slice elem)) (hsz : (P.info? elem).map (·.size) = some 1)
    (g d e k dCap sCap : Nat) (M : List Int) (hO : OwnV w g (ints M)) (hk : k = Nat.min d e) (hd : d + e ≤ M.length) :
    ∃ w', (∀ ty, (Builtin.copy_ #[dT, dT] ty #[.slice (some ⟨g, d, none⟩) e dCap, .slice (some ⟨g, 0, none⟩) d sCap]).run P w = .ok (goInt k) w') ∧ OwnV w' g (ints (M.take d ++ M.take k ++ M.drop (d + k))) ∧ Kept (fun b => b = g) w w' := by
  obtain ⟨c, t, hg, hc⟩ := hO
  have hkd : k ≤ d := by rw [hk]; exact Nat.min_le_left _ _
  have hke : k ≤ e := by rw [hk]; exact Nat.min_le_right _ _
  have hsize : M.length ≤ c.size := by
    rcases Nat.eq_zero_or_pos M.length with h0 | h0
    · omega
    · have h1 := hc (M.length - 1) (by rw [ints_length]; omega)
      rw [ints_get M (by omega)] at h1
      have := (Array.getElem?_eq_some_iff.1 h1).1
      omega
  have htl : (M.take k).length = k := by rw [List.length_take]; omega
  have hl := run_loadCells_list (P := P) w ⟨g, 0, none⟩ (ints (M.take k)) (fun j v hj => by
    have hjk : j < k := by
      rcases Nat.lt_or_ge j k with h | h
      · exact h
      · rw [List.getElem?_eq_none (by rw [ints_length, htl]; exact h)] at hj; cases hj
    rw [show (⟨g, 0, none⟩ : Addr).add j = ⟨g, 0 + j, none⟩ from by simp [Addr.add]; exact fun h => h.symm, Nat.zero_add]
    have h1 := hc j (by rw [ints_length]; omega)
    rw [ints_get M (by omega)] at h1
    rw [ints_get (M.take k) (by rw [htl]; exact hjk)] at hj
    simp [World.cell?, hg, h1, ← hj, List.getD, hjk])
  have hst := run_storeCells_at P g d t (ints (M.take k)) 0 c w hg (by rw [ints_length, htl]; omega) (fun v hv => by obtain ⟨x, _, rfl⟩ := List.mem_map.1 hv; rfl)
  simp only [Nat.add_zero] at hst
  refine ⟨w.setRow g (c.toList.take d ++ ints (M.take k) ++ c.toList.drop (d + (ints (M.take k)).length)).toArray, fun ty => ?_, ?_, ⟨rfl, rfl, rfl, by simp [World.setRow], fun b _ hb => setRow_other w g b _ (fun e => hb e)⟩⟩
  · cases hq : P.info? elem with
    | none => simp [hq] at hsz
    | some i =>
      have hi : i.size = 1 := by simpa [hq] using hsz
      rw [ints_length, htl] at hl
      simp [Builtin.copy_, run_underlying hu, Builtin.lenOf, Builtin.firstCells, sizeOf, typeInfo, hq, hi, ← hk, hl, hst]
  · refine ⟨_, t, setRow_heap w g _ _ t _ hg, fun i hi => ?_⟩
    rw [ints_length] at hi
    have hlen : (M.take d ++ M.take k ++ M.drop (d + k)).length = M.length := by simp; omega
    rw [hlen] at hi
    have hcd : ∀ j, j < M.length → c.toList[j]? = some (.int .i64 (M.getD j 0)) := fun j hj => by
      rw [Array.getElem?_toList, hc j (by rw [ints_length]; exact hj), ints_get M hj]
    have e1 : (ints (M.take k)).length = k := by rw [ints_length, htl]
    have e2 : (c.toList.take d).length = d := by rw [List.length_take, Array.length_toList]; omega
    have e3 : (M.take d).length = d := by rw [List.length_take]; omega
    rw [ints_get _ (by rw [hlen]; exact hi)]
    simp only [List.getElem?_toArray]
    rcases Nat.lt_or_ge i d with h1 | h1
    · rw [List.append_assoc, List.getElem?_append_left (by omega), List.getElem?_take, if_pos h1, hcd i hi]
      congr 2
      simp [List.getD, List.getElem?_append_left (show i < (M.take d).length by omega), h1]
    · rcases Nat.lt_or_ge i (d + k) with h2 | h2
      · rw [List.getElem?_append_left (by rw [List.length_append, e1, e2]; omega), List.getElem?_append_right (by omega), e2, ints_get _ (by omega)]
        congr 2
        simp only [List.getD]
        rw [List.getElem?_append_left (by rw [List.length_append, e3, htl]; omega), List.getElem?_append_right (by omega), e3]
      · rw [List.getElem?_append_right (by rw [List.length_append, e1, e2]; omega), List.length_append, e1, e2, List.getElem?_drop, show d + k + (i - (d + k)) = i by omega, hcd i hi]
        congr 2
        simp only [List.getD]
        rw [List.getElem?_append_right (by rw [List.length_append, e3, htl]; omega), List.length_append, e3, htl, List.getElem?_drop, show d + k + (i - (d + k)) = i by omega]

/-- d of n numbers are told. -/
def upTo (x : Int) (n d : Nat) : List Int := List.replicate d x ++ List.replicate (n - d) 0
theorem upTo_len (x : Int) {n d : Nat} (h : d ≤ n) : (upTo x n d).length = n := by simp [upTo]; omega
theorem upTo_more (x : Int) {n d k : Nat} (hk : k ≤ d) (h : d + k ≤ n) : (upTo x n d).take d ++ (upTo x n d).take k ++ (upTo x n d).drop (d + k) = upTo x n (d + k) := by
  have e1 : (upTo x n d).take d = List.replicate d x := by unfold upTo; rw [List.take_append_of_le_length (by simp)]; simp
  have e2 : (upTo x n d).take k = List.replicate k x := by unfold upTo; rw [List.take_append_of_le_length (by simp; exact hk), List.take_replicate, Nat.min_eq_left hk]
  have e3 : (upTo x n d).drop (d + k) = List.replicate (n - (d + k)) 0 := by
    unfold upTo
    rw [List.drop_append, List.drop_replicate, List.drop_replicate, List.length_replicate, show d - (d + k) = 0 by omega, show n - d - (d + k - d) = n - (d + k) by omega]
    simp
  rw [e1, e2, e3, List.replicate_append_replicate]
  rfl
theorem upTo_all (x : Int) (n : Nat) : upTo x n n = List.replicate n x := by simp [upTo]
theorem upTo_zero (x : Int) (n : Nat) : upTo x n 0 = List.replicate n 0 := by simp [upTo]

theorem madeInts (n : Nat) : (madeCells #[Value.int .i64 0] n).toList = ints (List.replicate n 0) := by
  simp [madeCells, ints]
  apply List.ext_getElem
  · simp
  · intro i h1 h2
    simp [Nat.mod_one]

theorem run_copy_first {P : Program} {w : World} (dT elem : TypeId) (hu : P.underlying dT = some (.slice elem)) (hsz : (P.info? elem).map (·.size) = some 1)
    (g n dCap sCap : Nat) (ad : Addr) (x : Int) (hn : 0 < n) (hO : OwnV w g (ints (upTo x n 0))) (hx : w.cell? ad = some (.int .i64 x)) :
    ∃ w', (∀ ty, (Builtin.copy_ #[dT, dT] ty #[.slice (some ⟨g, 0, none⟩) n dCap, .slice (some ad) 1 sCap]).run P w = .ok (goInt 1) w') ∧ OwnV w' g (ints (upTo x n 1)) ∧ Kept (fun b => b = g) w w' := by
  have hO' := hO
  obtain ⟨c, t, hg, hc⟩ := hO
  have hul := upTo_len x (n := n) (d := 0) (by omega)
  have h0 := hc 0 (by rw [ints_length, hul]; exact hn)
  rw [ints_get _ (by rw [hul]; exact hn)] at h0
  have hsize : 0 < c.size := (Array.getElem?_eq_some_iff.1 h0).1
  have hl := run_loadCells_list (P := P) w ad [.int .i64 x] (fun j v hj => by
    match j, hj with
    | 0, hj => simp at hj; rw [← hj]; simpa [Addr.add] using hx
    | j + 1, hj => simp at hj)
  have hst := run_storeCells_at P g 0 t [.int .i64 x] 0 c w hg (by simp; omega) (fun v hv => by simp at hv; rw [hv]; rfl)
  have hset : (ints (upTo x n 0)).set 0 (.int .i64 x) = ints (upTo x n 1) := by
    rw [ints_set]
    congr 1
    obtain ⟨m, rfl⟩ : ∃ m, n = m + 1 := ⟨n - 1, by omega⟩
    simp [upTo, List.replicate_succ]
  simp only [Nat.add_zero, List.take_zero, List.nil_append, List.length_cons, List.length_nil, Nat.zero_add] at hst
  refine ⟨w.setRow g ([Value.int .i64 x] ++ c.toList.drop 1).toArray, fun ty => ?_, ?_, ⟨rfl, rfl, rfl, by simp [World.setRow], fun b _ hb => setRow_other w g b _ (fun e => hb e)⟩⟩
  · have hmin : Nat.min 1 n = 1 := Nat.min_eq_left hn
    cases hq : P.info? elem with
    | none => simp [hq] at hsz
    | some i =>
      have hi : i.size = 1 := by simpa [hq] using hsz
      have hl' : (loadCells ad 1).run P w = .ok #[.int .i64 x] w := by simpa using hl
      simp [Builtin.copy_, run_underlying hu, Builtin.lenOf, Builtin.firstCells, sizeOf, typeInfo, hq, hi, hmin, hl', hst]
  · refine ⟨_, t, setRow_heap w g _ _ t _ hg, fun i hi => ?_⟩
    rw [← hset, List.length_set] at hi
    rw [← hset]
    rcases Nat.eq_zero_or_pos i with e | e
    · subst e
      simp [List.getElem?_set_self hi]
    · rw [List.getElem?_set_ne (by omega), ← hc i hi]
      obtain ⟨j, rfl⟩ : ∃ j, i = j + 1 := ⟨i - 1, by omega⟩
      simp

set_option maxRecDepth 10000 in
set_option maxHeartbeats 1600000 in
theorem repeat1_any (b o cr : Nat) (x : Int) (n : Nat) (w : World) (hx : w.cell? ⟨b, o, none⟩ = some (.int .i64 x)) (hn0 : 0 < n) (hn : n ≤ 1048576) :
    Calls Try.prog 77 #[.slice (some ⟨b, o, none⟩) 1 cr, .int .i64 n] w fun e w' => ∃ g, e = .returned (.slice (some ⟨g, 0, none⟩) n n) ∧ w.heap.size ≤ g ∧ OwnV w' g (ints (List.replicate n x)) ∧ Below w.heap.size w w' := by
  have HM := hide (mul_any n w (by omega))
  have hmk := run_make_row' (P := Try.prog) 24 3 (.int .i64 0) 8 Try.underlying24 Try.infoIntCp rfl .i64 .i64 n (by omega) (by omega)
  have hsz : (Try.prog.info? 3).map (·.size) = some 1 := by
    obtain ⟨i0, hi, hzz⟩ := Option.map_eq_some_iff.1 Try.infoIntCp
    simp only [Prod.mk.injEq] at hzz
    rw [hi, Option.map_some, hzz.2.1]
  have hO := ownV_alloc w (madeCells #[Value.int .i64 0] n) 3
  rw [madeInts, ← upTo_zero x n] at hO
  have hA := Below.alloc1 w (.cells (madeCells #[Value.int .i64 0] n) 3)
  obtain ⟨w1, hcp, hO1, hk1⟩ := run_copy_first (P := Try.prog) 24 3 Try.underlying24 hsz w.heap.size n n cr ⟨b, o, none⟩ x hn0 hO (wcell3 hx hA)
  have HB1 := hide (hA.trans (hk1.below (B := w.heap.size) hA.size (fun b e => by omega)))
  have HO1 := hide hO1
  have w1' : IntKind.u64.wrap (n : Int) = (n : Int) := by rw [IntKind.wrap_u64]; omega
  have hn64 : (n : Int) ≤ 9223372036854775807 := by omega
  have HSZ := hide hsz
  obtain ⟨g, eg⟩ : ∃ g, g = w.heap.size := ⟨_, rfl⟩
  have hgw : w.heap.size ≤ g := by omega
  clear hO hA hO1 hk1 hsz
  go_enter Try.func77, Try.ntmps77
  go_wp2_with fail
  refine (unhide HM).mono ?_
  rintro e w' ⟨rfl, h9⟩
  have h8 := h9.symm
  subst h8
  clear h9 HM
  go_wp2
  go_loopg [8] (n - 1) (fun gg dv wr => ∃ d : Nat, 0 < d ∧ d ≤ n ∧ gg = n - d ∧ dv = .int .i64 d ∧ Below w.heap.size w wr ∧ OwnV wr w.heap.size (ints (upTo x n d)))
  case atStart => exact ⟨1, by omega, by omega, rfl, by simp, unhide HB1, unhide HO1⟩
  case round =>
    obtain ⟨d, hd0, hd, rfl, rfl, hW, hO⟩ := hrel
    clear HB1 HO1 hcp hmk
    by_cases hdn : d < n
    · obtain ⟨e, he⟩ : ∃ e, n - d = e := ⟨_, rfl⟩
      obtain ⟨k, hk⟩ : ∃ k, k = Nat.min d e := ⟨_, rfl⟩
      have hkd : k ≤ d := by rw [hk]; exact Nat.min_le_left _ _
      have hke : k ≤ e := by rw [hk]; exact Nat.min_le_right _ _
      have hk0 : 0 < k := by rw [hk]; exact Nat.lt_min.2 ⟨hd0, by omega⟩
      have hne : ¬ n = d := by omega
      have hdk : d + k ≤ n := by omega
      have HWR : Hid (IntKind.i64.wrap ((d : Int) + (k : Int)) = ((d + k : Nat) : Int)) := by show _ = _; rw [IntKind.wrap_i64]; omega
      obtain ⟨w2, hcp, hO2, hk2⟩ := run_copy_self (P := Try.prog) (w := wr.drew) 24 3 Try.underlying24 (unhide HSZ) w.heap.size d e k e n (upTo x n d) hO.drew hk (by rw [upTo_len x hd]; omega)
      rw [upTo_more x hkd (by omega)] at hO2
      have HB2 := hide (hW.trans ((Kept.drewL hk2).below (B := w.heap.size) hW.size (fun b e => by omega)))
      have HO2 := hide hO2
      have HW := hide hW
      have hdi : (d : Int) < n := by omega
      have hdi2 : (d : Int) ≤ n := by omega
      clear hO2 hk2 hW hO hk
      go_wp2
      go_region_held3 (fun _ => True) (trivial) (fail)
      go_wp2
      go_roundg (n - (d + k))
      case measure => omega
      case rel => refine ⟨d + k, by omega, hdk, rfl, ?_, unhide HB2, unhide HO2⟩; rw [unhide HWR]
    · have hdd : d = n := by omega
      subst hdd
      rw [upTo_all] at hO
      have HO := hide hO
      have HW := hide hW
      clear hO hW
      go_wp2
      go_ret
      exact ⟨_, rfl, Nat.le_refl _, unhide HO, unhide HW⟩

end Go.Proofs.Ytnapggchejdcgaa
