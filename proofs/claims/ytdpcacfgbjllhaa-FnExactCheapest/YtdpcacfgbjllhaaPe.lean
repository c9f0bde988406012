/- Laid together out of: CpK, CpInt, RpA, ImCheapest, SeF, BlkA, L7Cheapest, OpenRs, OpenSe. -/
import Derived.Test.YtdpcacfgbjllhaaPa
import Derived.Laws.CopyRow
import Derived.Test.YtdpcacfgbjllhaaPb
import Derived.Laws.BitsAllLaws
import Derived.Deep.RegionHeld3
import Derived.Test.YtdpcacfgbjllhaaPd
import Derived.Test.YtdpcacfgbjllhaaPc
import Derived.Deep.DeepCutAuto
import Derived.ProofKit
import Derived.OpenShut
import Derived.ShutString
import Derived.ChangeOld
import Derived.Below
import Derived.Deep.Matrix
import Derived.Lib.SmallJoins

/- How a whole row of records is copied into a row of the call's own. No statement about the program stands here. -/
namespace Go.Proofs.Ytdpcacfgbjllhaa
open Go.RowKit

theorem run_copy_k {P : Program} (w : World) (dT sT ty elem : TypeId) (k : Nat) (g n dCap : Nat) (a : Addr) (sCap : Nat) (cur : Array Value) (t : TypeId) (cs : List Value)
    (hu : P.underlying dT = some (.slice elem)) (hs : (P.info? elem).map (·.size) = some k)
    (hg : w.heap[g]? = some (.cells cur t (0, 0))) (hn : cs.length = n * k)
    (hsrc : ∀ j v, cs[j]? = some v → w.cell? (a.add j) = some v) (hfit : cs.length ≤ cur.size) (h1 : ∀ v ∈ cs, v.oneCell' = true) :
    (Builtin.copy_ #[dT, sT] ty #[.slice (some ⟨g, 0, none⟩) n dCap, .slice (some a) n sCap]).run P w =
      .ok (goInt n) (w.setRow g (cs ++ cur.toList.drop cs.length).toArray) := by
  have hl := run_loadCells_list (P := P) w a cs hsrc
  have hst := run_storeCells_at P g 0 t cs 0 cur w hg (by simpa using hfit) h1
  simp only [Nat.zero_add, List.take_zero, List.nil_append] at hst
  cases hq : P.info? elem with
  | none => simp [hq] at hs
  | some i =>
    have hi : i.size = k := by simpa [hq] using hs
    have hmin : Nat.min n n = n := Nat.min_self n
    simp [Builtin.copy_, run_underlying hu, Builtin.lenOf, Builtin.firstCells, sizeOf, typeInfo, hq, hi, ← hn, hl, hst]

theorem run_copy_k0 {P : Program} (w : World) (dT sT ty elem : TypeId) (k : Nat) (d a : Option Addr) (dCap sCap : Nat) (hu : P.underlying dT = some (.slice elem)) (hs : (P.info? elem).map (·.size) = some k) :
    (Builtin.copy_ #[dT, sT] ty #[.slice d 0 dCap, .slice a 0 sCap]).run P w = .ok (goInt 0) w := by
  cases hq : P.info? elem with
  | none => simp [hq] at hs
  | some i =>
    have hl : ∀ (x : Addr), (loadCells x 0).run P w = .ok #[] w := fun x => by simpa using run_loadCells_list (P := P) w x [] (by simp)
    cases d <;> cases a <;> simp [Builtin.copy_, run_underlying hu, Builtin.lenOf, Builtin.firstCells, sizeOf, typeInfo, hq, storeCells, hl]

theorem below_setRow' {B g : Nat} {w0 w : World} (hb : Below B w0 w) (hBg : B ≤ g) (cs : Array Value) : Below B w0 (w.setRow g cs) :=
  hb.trans ⟨rfl, rfl, rfl, by simp [World.setRow], fun k hk => setRow_other w g k cs (by omega)⟩

theorem ownV_fits {w : World} {g : Nat} {zs : List Value} (h : OwnV w g zs) : ∃ c t, w.heap[g]? = some (.cells c t (0, 0)) ∧ zs.length ≤ c.size := by
  obtain ⟨c, t, h1, h2⟩ := h
  refine ⟨c, t, h1, ?_⟩
  rcases Nat.eq_zero_or_pos zs.length with e | e
  · omega
  · have := h2 (zs.length - 1) (by omega)
    rw [List.getElem?_eq_getElem (by omega)] at this
    have := (Array.getElem?_eq_some_iff.1 this).1
    omega

theorem run_copy_all {P : Program} {w : World} (dT sT elem : TypeId) (k : Nat) (hu : P.underlying dT = some (.slice elem)) (hsz : (P.info? elem).map (·.size) = some k)
    (g n dCap : Nat) (sp : Option Addr) (sCap : Nat)
    (zs cs : List Value) (hO : OwnV w g zs) (hz : zs.length = cs.length) (hn : cs.length = n * k)
    (hsrc : 0 < n → ∃ ad, sp = some ad ∧ ∀ j v, cs[j]? = some v → w.cell? (ad.add j) = some v) (h1 : ∀ v ∈ cs, v.oneCell' = true)
    (B : Nat) (w0 : World) (hb : Below B w0 w) (hBg : B ≤ g) :
    ∃ w', (∀ ty, (Builtin.copy_ #[dT, sT] ty #[.slice (some ⟨g, 0, none⟩) n dCap, .slice sp n sCap]).run P w = .ok (goInt n) w') ∧ OwnV w' g cs ∧ Below B w0 w' := by
  rcases Nat.eq_zero_or_pos n with h0 | hpos
  · subst h0
    have hc0 : cs = [] := List.eq_nil_of_length_eq_zero (by rw [hn, Nat.zero_mul])
    subst hc0
    obtain ⟨c, t, hg, _⟩ := hO
    exact ⟨w, fun ty => run_copy_k0 (P := P) w dT sT ty elem k (some ⟨g, 0, none⟩) sp dCap sCap hu hsz, ⟨c, t, hg, fun i hi => by simp at hi⟩, hb⟩
  · obtain ⟨c, t, hg, hc⟩ := ownV_fits hO
    obtain ⟨ad, rfl, hsr⟩ := hsrc hpos
    refine ⟨_, fun ty => run_copy_k (P := P) w dT sT ty elem k g n dCap ad sCap c t cs hu hsz hg hn hsr (by omega) h1, ⟨_, t, setRow_heap w g _ _ t _ hg, fun i hi => ?_⟩, below_setRow' hb hBg _⟩
    simp [List.getElem?_append_left hi]

/-- The cells of a list of records that came in. -/
theorem recs_src {α : Type} [Inhabited α] {n : Nat} {enc : α → Nat → Value} {w : World} {ao : Option Addr} {m cap : Nat} {L : List α} (h : RecsIn n enc w (.slice ao m cap) L) :
    0 < m → ∃ ad, ao = some ad ∧ ∀ j v, (recCells n enc L)[j]? = some v → w.cell? (ad.add j) = some v := by
  obtain ⟨ao', cap', e, hl, hm, hc⟩ := h
  simp only [Value.slice.injEq] at e
  obtain ⟨rfl, rfl, rfl⟩ := e
  intro hpos
  obtain ⟨b, o, e, hx⟩ := hc 0 hpos
  subst e
  refine ⟨_, rfl, fun j v hj => ?_⟩
  have hjl : j < L.length * n := by
    rcases Nat.lt_or_ge j (L.length * n) with h | h
    · exact h
    · rw [List.getElem?_eq_none (by rw [recCells_length]; exact h)] at hj; cases hj
  have hn0 : 0 < n := by
    rcases Nat.eq_zero_or_pos n with e | e
    · subst e; simp at hjl
    · exact e
  have hi : j / n < L.length := Nat.div_lt_of_lt_mul (by rw [Nat.mul_comm]; exact hjl)
  obtain ⟨b', o', e', hx'⟩ := hc (j / n) hi
  simp only [Option.some.injEq, Addr.mk.injEq, and_true] at e'
  obtain ⟨rfl, rfl⟩ := e'
  have hg := hx' (j % n) (Nat.mod_lt _ hn0)
  have hj2 := recCells_get (n := n) (enc := enc) hi (Nat.mod_lt j hn0)
  have hdm : j / n * n + j % n = j := by rw [Nat.mul_comm]; exact Nat.div_add_mod j n
  rw [hdm] at hg hj2
  rw [hj2] at hj
  have hadd : (⟨b, o, none⟩ : Addr).add j = ⟨b, o + j, none⟩ := by unfold Addr.add; split <;> simp_all
  rw [hadd, hg, hj]

theorem ints_src {w : World} {ao : Option Addr} {m cap : Nat} {xs : List Int} (h : IntsIn w (.slice ao m cap) xs) :
    0 < m → ∃ ad, ao = some ad ∧ ∀ j v, (ints xs)[j]? = some v → w.cell? (ad.add j) = some v := by
  obtain ⟨ao', cap', e, hl, hm, hc⟩ := h
  simp only [Value.slice.injEq] at e
  obtain ⟨rfl, rfl, rfl⟩ := e
  intro hpos
  obtain ⟨b, o, e, hx⟩ := hc 0 hpos
  subst e
  refine ⟨_, rfl, fun j v hj => ?_⟩
  have hjl : j < xs.length := by
    rcases Nat.lt_or_ge j xs.length with h | h
    · exact h
    · rw [List.getElem?_eq_none (by rw [ints_length]; exact h)] at hj; cases hj
  obtain ⟨b', o', e', hx'⟩ := hc j hjl
  simp only [Option.some.injEq, Addr.mk.injEq, and_true] at e'
  obtain ⟨rfl, rfl⟩ := e'
  have hadd : (⟨b, o, none⟩ : Addr).add j = ⟨b, o + j, none⟩ := by unfold Addr.add; split <;> simp_all
  rw [hadd, hx', ← hj, ints_get xs hjl]

end Go.Proofs.Ytdpcacfgbjllhaa

/- The contract of the program's ownCopy of Int. -/
namespace Go.Proofs.Ytdpcacfgbjllhaa
open Go.RowKit

set_option maxRecDepth 10000 in
theorem Try.infoIntCp : (Try.prog.info? 3).map (fun i => (i.zero, i.size, i.bytes)) = some (some (Value.int .i64 0), 1, 8) := by kernel_rfl

end Go.Proofs.Ytdpcacfgbjllhaa

/- The contract of slices.Repeat at one number. Written by wip/mkrep.py. -/
namespace Go.Proofs.Ytdpcacfgbjllhaa
open Go.RowKit

theorem Kept.drewL {T : Nat → Prop} {w w' : World} (hk : Kept T w.drew w') : Kept T w w' := ⟨hk.os, hk.tape, hk.output, hk.size, hk.block⟩

set_option maxRecDepth 10000 in
set_option maxHeartbeats 1600000 in
theorem mul64_any (n : Nat) (w : World) (hn : n < 4294967296) :
    Calls Try.prog 67 #[.int .u64 1, .int .u64 n] w fun e w' => e = .returned (.tuple #[.int .u64 0, .int .u64 n]) ∧ w' = w := by
  have a1 : bits .and .u64 1 4294967295 = 1 := by decide
  have a2 : bits .and .u64 (n : Int) 4294967295 = (n : Int) := by
    rw [show ((4294967295 : Int)) = ((4294967295 : Nat) : Int) from rfl, u64_and_nat n 4294967295 (by omega) (by omega), nat_mask32]
    congr 1
    exact Nat.mod_eq_of_lt hn
  have a3 : bits .and .u64 0 4294967295 = 0 := by decide
  have d1 : (n : Int) / 4294967296 = 0 := by omega
  have w1 : IntKind.u64.wrap (n : Int) = (n : Int) := by rw [IntKind.wrap_u64]; omega
  go_enter Try.func67, Try.ntmps67
  go_wp2
  refine bodyPost_ret (v := .tuple #[.int .u64 0, .int .u64 n]) (by simp [results, Try.results67, go_sem, *]) rfl ⟨rfl, rfl⟩

set_option maxRecDepth 10000 in
set_option maxHeartbeats 1600000 in
theorem mul_any (n : Nat) (w : World) (hn : n < 4294967296) :
    Calls Try.prog 57 #[.int .u64 1, .int .u64 n] w fun e w' => e = .returned (.tuple #[.int .u64 0, .int .u64 n]) ∧ w' = w := by
  have HM := hide (mul64_any n w hn)
  go_enter Try.func57, Try.ntmps57
  go_wp2_with fail
  refine (unhide HM).mono ?_
  rintro e w' ⟨rfl, h9⟩
  have h8 := h9.symm
  subst h8
  clear h9
  go_wp2
  refine bodyPost_ret (v := .tuple #[.int .u64 0, .int .u64 n]) (by simp [results, Try.results57, go_sem]) rfl ⟨rfl, rfl⟩

/-- A piece of a row is copied behind itself. -/
theorem run_copy_self {P : Program} {w : World} (dT elem : TypeId) (hu : P.underlying dT = some (.slice elem)) (hsz : (P.info? elem).map (·.size) = some 1)
    (g d e k dCap sCap : Nat) (M : List Int) (hO : OwnV w g (ints M)) (hk : k = Nat.min d e) (hd : d + e ≤ M.length) :
    ∃ w', (∀ ty, (Builtin.copy_ #[dT, dT] ty #[.slice (some ⟨g, d, none⟩) e dCap, .slice (some ⟨g, 0, none⟩) d sCap]).run P w = .ok (goInt k) w') ∧ OwnV w' g (ints (M.take d ++ M.take k ++ M.drop (d + k))) ∧ Kept (fun b => b = g) w w' := by
  obtain ⟨c, t, hg, hc⟩ := hO
  have hkd : k ≤ d := by rw [hk]; exact Nat.min_le_left _ _
  have hke : k ≤ e := by rw [hk]; exact Nat.min_le_right _ _
  have hsize : M.length ≤ c.size := by
    rcases Nat.eq_zero_or_pos M.length with h0 | h0
    · omega
    · have h1 := hc (M.length - 1) (by rw [ints_length]; omega)
      rw [ints_get M (by omega)] at h1
      have := (Array.getElem?_eq_some_iff.1 h1).1
      omega
  have htl : (M.take k).length = k := by rw [List.length_take]; omega
  have hl := run_loadCells_list (P := P) w ⟨g, 0, none⟩ (ints (M.take k)) (fun j v hj => by
    have hjk : j < k := by
      rcases Nat.lt_or_ge j k with h | h
      · exact h
      · rw [List.getElem?_eq_none (by rw [ints_length, htl]; exact h)] at hj; cases hj
    rw [show (⟨g, 0, none⟩ : Addr).add j = ⟨g, 0 + j, none⟩ from by simp [Addr.add]; exact fun h => h.symm, Nat.zero_add]
    have h1 := hc j (by rw [ints_length]; omega)
    rw [ints_get M (by omega)] at h1
    rw [ints_get (M.take k) (by rw [htl]; exact hjk)] at hj
    simp [World.cell?, hg, h1, ← hj, List.getD, hjk])
  have hst := run_storeCells_at P g d t (ints (M.take k)) 0 c w hg (by rw [ints_length, htl]; omega) (fun v hv => by obtain ⟨x, _, rfl⟩ := List.mem_map.1 hv; rfl)
  simp only [Nat.add_zero] at hst
  refine ⟨w.setRow g (c.toList.take d ++ ints (M.take k) ++ c.toList.drop (d + (ints (M.take k)).length)).toArray, fun ty => ?_, ?_, ⟨rfl, rfl, rfl, by simp [World.setRow], fun b _ hb => setRow_other w g b _ (fun e => hb e)⟩⟩
  · cases hq : P.info? elem with
    | none => simp [hq] at hsz
    | some i =>
      have hi : i.size = 1 := by simpa [hq] using hsz
      rw [ints_length, htl] at hl
      simp [Builtin.copy_, run_underlying hu, Builtin.lenOf, Builtin.firstCells, sizeOf, typeInfo, hq, hi, ← hk, hl, hst]
  · refine ⟨_, t, setRow_heap w g _ _ t _ hg, fun i hi => ?_⟩
    rw [ints_length] at hi
    have hlen : (M.take d ++ M.take k ++ M.drop (d + k)).length = M.length := by simp; omega
    rw [hlen] at hi
    have hcd : ∀ j, j < M.length → c.toList[j]? = some (.int .i64 (M.getD j 0)) := fun j hj => by
      rw [Array.getElem?_toList, hc j (by rw [ints_length]; exact hj), ints_get M hj]
    have e1 : (ints (M.take k)).length = k := by rw [ints_length, htl]
    have e2 : (c.toList.take d).length = d := by rw [List.length_take, Array.length_toList]; omega
    have e3 : (M.take d).length = d := by rw [List.length_take]; omega
    rw [ints_get _ (by rw [hlen]; exact hi)]
    simp only [List.getElem?_toArray]
    rcases Nat.lt_or_ge i d with h1 | h1
    · rw [List.append_assoc, List.getElem?_append_left (by omega), List.getElem?_take, if_pos h1, hcd i hi]
      congr 2
      simp [List.getD, List.getElem?_append_left (show i < (M.take d).length by omega), h1]
    · rcases Nat.lt_or_ge i (d + k) with h2 | h2
      · rw [List.getElem?_append_left (by rw [List.length_append, e1, e2]; omega), List.getElem?_append_right (by omega), e2, ints_get _ (by omega)]
        congr 2
        simp only [List.getD]
        rw [List.getElem?_append_left (by rw [List.length_append, e3, htl]; omega), List.getElem?_append_right (by omega), e3]
      · rw [List.getElem?_append_right (by rw [List.length_append, e1, e2]; omega), List.length_append, e1, e2, List.getElem?_drop, show d + k + (i - (d + k)) = i by omega, hcd i hi]
        congr 2
        simp only [List.getD]
        rw [List.getElem?_append_right (by rw [List.length_append, e3, htl]; omega), List.length_append, e3, htl, List.getElem?_drop, show d + k + (i - (d + k)) = i by omega]

/-- d of n numbers are told. -/
def upTo (x : Int) (n d : Nat) : List Int := List.replicate d x ++ List.replicate (n - d) 0
theorem upTo_len (x : Int) {n d : Nat} (h : d ≤ n) : (upTo x n d).length = n := by simp [upTo]; omega
theorem upTo_more (x : Int) {n d k : Nat} (hk : k ≤ d) (h : d + k ≤ n) : (upTo x n d).take d ++ (upTo x n d).take k ++ (upTo x n d).drop (d + k) = upTo x n (d + k) := by
  have e1 : (upTo x n d).take d = List.replicate d x := by unfold upTo; rw [List.take_append_of_le_length (by simp)]; simp
  have e2 : (upTo x n d).take k = List.replicate k x := by unfold upTo; rw [List.take_append_of_le_length (by simp; exact hk), List.take_replicate, Nat.min_eq_left hk]
  have e3 : (upTo x n d).drop (d + k) = List.replicate (n - (d + k)) 0 := by
    unfold upTo
    rw [List.drop_append, List.drop_replicate, List.drop_replicate, List.length_replicate, show d - (d + k) = 0 by omega, show n - d - (d + k - d) = n - (d + k) by omega]
    simp
  rw [e1, e2, e3, List.replicate_append_replicate]
  rfl
theorem upTo_all (x : Int) (n : Nat) : upTo x n n = List.replicate n x := by simp [upTo]
theorem upTo_zero (x : Int) (n : Nat) : upTo x n 0 = List.replicate n 0 := by simp [upTo]

theorem madeInts (n : Nat) : (madeCells #[Value.int .i64 0] n).toList = ints (List.replicate n 0) := by
  simp [madeCells, ints]
  apply List.ext_getElem
  · simp
  · intro i h1 h2
    simp [Nat.mod_one]

theorem run_copy_first {P : Program} {w : World} (dT elem : TypeId) (hu : P.underlying dT = some (.slice elem)) (hsz : (P.info? elem).map (·.size) = some 1)
    (g n dCap sCap : Nat) (ad : Addr) (x : Int) (hn : 0 < n) (hO : OwnV w g (ints (upTo x n 0))) (hx : w.cell? ad = some (.int .i64 x)) :
    ∃ w', (∀ ty, (Builtin.copy_ #[dT, dT] ty #[.slice (some ⟨g, 0, none⟩) n dCap, .slice (some ad) 1 sCap]).run P w = .ok (goInt 1) w') ∧ OwnV w' g (ints (upTo x n 1)) ∧ Kept (fun b => b = g) w w' := by
  have hO' := hO
  obtain ⟨c, t, hg, hc⟩ := hO
  have hul := upTo_len x (n := n) (d := 0) (by omega)
  have h0 := hc 0 (by rw [ints_length, hul]; exact hn)
  rw [ints_get _ (by rw [hul]; exact hn)] at h0
  have hsize : 0 < c.size := (Array.getElem?_eq_some_iff.1 h0).1
  have hl := run_loadCells_list (P := P) w ad [.int .i64 x] (fun j v hj => by
    match j, hj with
    | 0, hj => simp at hj; rw [← hj]; simpa [Addr.add] using hx
    | j + 1, hj => simp at hj)
  have hst := run_storeCells_at P g 0 t [.int .i64 x] 0 c w hg (by simp; omega) (fun v hv => by simp at hv; rw [hv]; rfl)
  have hset : (ints (upTo x n 0)).set 0 (.int .i64 x) = ints (upTo x n 1) := by
    rw [ints_set]
    congr 1
    obtain ⟨m, rfl⟩ : ∃ m, n = m + 1 := ⟨n - 1, by omega⟩
    simp [upTo, List.replicate_succ]
  simp only [Nat.add_zero, List.take_zero, List.nil_append, List.length_cons, List.length_nil, Nat.zero_add] at hst
  refine ⟨w.setRow g ([Value.int .i64 x] ++ c.toList.drop 1).toArray, fun ty => ?_, ?_, ⟨rfl, rfl, rfl, by simp [World.setRow], fun b _ hb => setRow_other w g b _ (fun e => hb e)⟩⟩
  · have hmin : Nat.min 1 n = 1 := Nat.min_eq_left hn
    cases hq : P.info? elem with
    | none => simp [hq] at hsz
    | some i =>
      have hi : i.size = 1 := by simpa [hq] using hsz
      have hl' : (loadCells ad 1).run P w = .ok #[.int .i64 x] w := by simpa using hl
      simp [Builtin.copy_, run_underlying hu, Builtin.lenOf, Builtin.firstCells, sizeOf, typeInfo, hq, hi, hmin, hl', hst]
  · refine ⟨_, t, setRow_heap w g _ _ t _ hg, fun i hi => ?_⟩
    rw [← hset, List.length_set] at hi
    rw [← hset]
    rcases Nat.eq_zero_or_pos i with e | e
    · subst e
      simp [List.getElem?_set_self hi]
    · rw [List.getElem?_set_ne (by omega), ← hc i hi]
      obtain ⟨j, rfl⟩ : ∃ j, i = j + 1 := ⟨i - 1, by omega⟩
      simp

set_option maxRecDepth 10000 in
set_option maxHeartbeats 1600000 in
theorem repeat1_any (b o cr : Nat) (x : Int) (n : Nat) (w : World) (hx : w.cell? ⟨b, o, none⟩ = some (.int .i64 x)) (hn0 : 0 < n) (hn : n ≤ 1048576) :
    Calls Try.prog 30 #[.slice (some ⟨b, o, none⟩) 1 cr, .int .i64 n] w fun e w' => ∃ g, e = .returned (.slice (some ⟨g, 0, none⟩) n n) ∧ w.heap.size ≤ g ∧ OwnV w' g (ints (List.replicate n x)) ∧ Below w.heap.size w w' := by
  have HM := hide (mul_any n w (by omega))
  have hmk := run_make_row' (P := Try.prog) 24 3 (.int .i64 0) 8 Try.underlying24 Try.infoIntCp rfl .i64 .i64 n (by omega) (by omega)
  have hsz : (Try.prog.info? 3).map (·.size) = some 1 := by
    obtain ⟨i0, hi, hzz⟩ := Option.map_eq_some_iff.1 Try.infoIntCp
    simp only [Prod.mk.injEq] at hzz
    rw [hi, Option.map_some, hzz.2.1]
  have hO := ownV_alloc w (madeCells #[Value.int .i64 0] n) 3
  rw [madeInts, ← upTo_zero x n] at hO
  have hA := Below.alloc1 w (.cells (madeCells #[Value.int .i64 0] n) 3)
  obtain ⟨w1, hcp, hO1, hk1⟩ := run_copy_first (P := Try.prog) 24 3 Try.underlying24 hsz w.heap.size n n cr ⟨b, o, none⟩ x hn0 hO (wcell3 hx hA)
  have HB1 := hide (hA.trans (hk1.below (B := w.heap.size) hA.size (fun b e => by omega)))
  have HO1 := hide hO1
  have w1' : IntKind.u64.wrap (n : Int) = (n : Int) := by rw [IntKind.wrap_u64]; omega
  have hn64 : (n : Int) ≤ 9223372036854775807 := by omega
  have HSZ := hide hsz
  obtain ⟨g, eg⟩ : ∃ g, g = w.heap.size := ⟨_, rfl⟩
  have hgw : w.heap.size ≤ g := by omega
  clear hO hA hO1 hk1 hsz
  go_enter Try.func30, Try.ntmps30
  go_wp2_with fail
  refine (unhide HM).mono ?_
  rintro e w' ⟨rfl, h9⟩
  have h8 := h9.symm
  subst h8
  clear h9 HM
  go_wp2
  go_loopg [8] (n - 1) (fun gg dv wr => ∃ d : Nat, 0 < d ∧ d ≤ n ∧ gg = n - d ∧ dv = .int .i64 d ∧ Below w.heap.size w wr ∧ OwnV wr w.heap.size (ints (upTo x n d)))
  case atStart => exact ⟨1, by omega, by omega, rfl, by simp, unhide HB1, unhide HO1⟩
  case round =>
    obtain ⟨d, hd0, hd, rfl, rfl, hW, hO⟩ := hrel
    clear HB1 HO1 hcp hmk
    by_cases hdn : d < n
    · obtain ⟨e, he⟩ : ∃ e, n - d = e := ⟨_, rfl⟩
      obtain ⟨k, hk⟩ : ∃ k, k = Nat.min d e := ⟨_, rfl⟩
      have hkd : k ≤ d := by rw [hk]; exact Nat.min_le_left _ _
      have hke : k ≤ e := by rw [hk]; exact Nat.min_le_right _ _
      have hk0 : 0 < k := by rw [hk]; exact Nat.lt_min.2 ⟨hd0, by omega⟩
      have hne : ¬ n = d := by omega
      have hdk : d + k ≤ n := by omega
      have HWR : Hid (IntKind.i64.wrap ((d : Int) + (k : Int)) = ((d + k : Nat) : Int)) := by show _ = _; rw [IntKind.wrap_i64]; omega
      obtain ⟨w2, hcp, hO2, hk2⟩ := run_copy_self (P := Try.prog) (w := wr.drew) 24 3 Try.underlying24 (unhide HSZ) w.heap.size d e k e n (upTo x n d) hO.drew hk (by rw [upTo_len x hd]; omega)
      rw [upTo_more x hkd (by omega)] at hO2
      have HB2 := hide (hW.trans ((Kept.drewL hk2).below (B := w.heap.size) hW.size (fun b e => by omega)))
      have HO2 := hide hO2
      have HW := hide hW
      have hdi : (d : Int) < n := by omega
      have hdi2 : (d : Int) ≤ n := by omega
      clear hO2 hk2 hW hO hk
      go_wp2
      go_region_held3 (fun _ => True) (trivial) (fail)
      go_wp2
      go_roundg (n - (d + k))
      case measure => omega
      case rel => refine ⟨d + k, by omega, hdk, rfl, ?_, unhide HB2, unhide HO2⟩; rw [unhide HWR]
    · have hdd : d = n := by omega
      subst hdd
      rw [upTo_all] at hO
      have HO := hide hO
      have HW := hide hW
      clear hO hW
      go_wp2
      go_ret
      exact ⟨_, rfl, Nat.le_refl _, unhide HO, unhide HW⟩

end Go.Proofs.Ytdpcacfgbjllhaa

/- The contract of the program's Cheapest. Written by wip/mkdj.py. -/
namespace Go.Proofs.Ytdpcacfgbjllhaa
open Go.RowKit

theorem QI.kept {T : Nat → Prop} {w W W' : World} {box : List Value} {g : Nat} {M : List Int} (h : QI w W box g M) (hk : Kept T W W') (h1 : ¬ T w.heap.size) (h2 : ¬ T g) (h3 : ∀ b, T b → w.heap.size ≤ b) : QI w W' box g M :=
  ⟨h.below.trans (hk.below h.below.size h3), h.ob.kept hk h1, h.oo.kept hk h2, h.h1⟩
/-- The sea's box, the costs, and the frontier at block gf. -/
structure DQ (w W : World) (box : List Value) (gh gf : Nat) (M : List Int) (sv : Value) (n : Nat) (L : List Rc) : Prop where
  q : QI w W box gh M
  fr : FrN W (gf + 1) gf sv n L
  hg : gh < gf
theorem DQ.step {w W W' : World} {box : List Value} {gh gf : Nat} {M : List Int} {sv : Value} {n : Nat} {L : List Rc} (h : DQ w W box gh gf M sv n L) (hb : Below W.heap.size W W') : DQ w W' box gh gf M sv n L := ⟨h.q.step hb, h.fr.below hb, h.hg⟩
theorem DQ.lt {w W : World} {box : List Value} {gh gf : Nat} {M : List Int} {sv : Value} {n : Nat} {L : List Rc} (h : DQ w W box gh gf M sv n L) : w.heap.size < gh ∧ gf < W.heap.size := ⟨h.q.h1, h.fr.box.lt⟩
theorem DQ.put {w W : World} {box : List Value} {gh gf : Nat} {M : List Int} {sv : Value} {n : Nat} {L : List Rc} (h : DQ w W box gh gf M sv n L) {p : Nat} (hp : p < M.length) (v : Int) : DQ w (W.setCell ⟨gh, p, none⟩ (.int .i64 v)) box gh gf (M.set p v) sv n L := by
  have h1 := h.hg
  refine ⟨h.q.put hp v, ⟨h.fr.box.other (a := ⟨gh, p, none⟩) (by show gf ≠ gh; omega) _, ownsRow_setCell_other h.fr.row (a := ⟨gh, p, none⟩) (fun e => ?_) _, h.fr.len, h.fr.lt⟩, h.hg⟩
  have := (h.fr.own e).1
  simp only at this
  omega
theorem Kept.setOn {T : Nat → Prop} {w w' : World} (h : Kept T w w') (p : Addr) (hp : T p.block) (u : Value) : Kept T w (w'.setCell p u) := h.setCell hp u
theorem rc_mem {L : List Rc} (h : 0 < L.length) : L.getD 0 (0, 0) ∈ L := by
  rw [getD_lt h]
  exact List.getElem_mem h
theorem rc_least {L : List Rc} (h : Hp L L.length) {e : Rc} (he : e ∈ L) : (L.getD 0 (0, 0)).1 ≤ e.1 := by
  obtain ⟨i, hi, rfl⟩ := List.mem_iff_getElem.1 he
  have := h.least i hi
  rw [getD_lt hi] at this
  unfold rlt at this
  omega
theorem one_list {L : List Rc} {z : Rc} (h : 1 = L.length) (hm : ∀ e, e ∈ L ↔ e ∈ ([] : List Rc) ∨ e = z) : L = [z] := by
  match L, h with
  | [a], _ =>
    have := (hm a).1 (by simp)
    simp at this
    rw [this]
  | [], h => simp at h
  | a :: b :: t, h => simp at h
theorem OwnSl.at {B : Nat} {w : World} {a : Option Addr} {n cp : Nat} {xs : List Int} (h : OwnSl B w (.slice a n cp) xs) : n = xs.length := by
  obtain ⟨a', c', e, -⟩ := h
  simp only [Value.slice.injEq] at e
  exact e.2.1
theorem OwnSl.row {B : Nat} {w : World} {a : Option Addr} {n cp k : Nat} {xs : List Int} (h : OwnSl B w (.slice a n cp) xs) (hk : k < xs.length) : ∃ g, a = some ⟨g, 0, none⟩ ∧ B ≤ g ∧ OwnV w g (ints xs) := by
  obtain ⟨a', c', e, -, -, h3⟩ := h
  simp only [Value.slice.injEq] at e
  rw [e.1]
  exact h3 (fun h => by rw [h] at hk; simp at hk)
theorem nbs_len (wd n q : Int) : (nbs wd n q).length ≤ 4 := by
  unfold nbs
  simp only [List.length_append]
  split <;> split <;> split <;> split <;> simp

set_option maxRecDepth 100000 in
set_option maxHeartbeats 32000000 in
theorem implCheapest_any (s : Se) (dao : Option Addr) (dn dc : Nat) (fao : Option Addr) (fn fc : Nat) (x : Int) (w : World) (hD : IntsIn w (.slice dao dn dc) s.D) (hF : RClosed w (.slice fao fn fc) s.F) :
    Calls Try.prog 8 #[vSea s.wd s.hg (.slice dao dn dc) (.slice fao fn fc), .int .i64 x] w fun e w' => CheapPost s x w w' e := by
  have A := Below.alloc1 w (.cells #[.int .i64 s.wd, .int .i64 s.hg, .slice dao dn dc, .slice fao fn fc] 27)
  have O := ownV_alloc w #[.int .i64 s.wd, .int .i64 s.hg, .slice dao dn dc, .slice fao fn fc] 27
  have HOK := hide (implSeaOk_any s dao dn dc fao fn fc _ (hD.below A) (hF.below A))
  have HD := hide hD
  obtain ⟨dao', dc', eD, hdl, hdm, hdc⟩ := hD
  simp only [Value.slice.injEq] at eD
  obtain ⟨rfl, rfl, rfl⟩ := eD
  have HDC := hide hdc
  have HW := hide A
  have HO := hide O
  have b0 := O.cell (i := 0) rfl
  have b1 := O.cell (i := 1) rfl
  have b2 := O.cell (i := 2) rfl
  have b3 := O.cell (i := 3) rfl
  clear A O hdc hF
  unfold vSea at HOK ⊢
  cases h1 : seaB s with
  | false =>
    have HC : Hid (CheapAns s x [] false) := Or.inr ⟨by rw [h1]; rfl, rfl, rfl⟩
    rw [h1] at HOK
    go_enter Try.func8, Try.ntmps8
    go_wp2_with fail
    refine (unhide HOK).mono ?_
    rintro e w1 ⟨rfl, hb⟩
    replace HW := hide (Below.step (unhide HW) hb)
    clear hb HOK
    go_wp2
    refine bodyPost_ret (v := .tuple #[.slice none 0 0, .bool false]) (by simp [results, Try.results8, go_sem]) rfl (cheapPost_mk (unhide HC) ⟨none, 0, rfl, Nat.le_refl _, Nat.zero_le _, fun h => absurd rfl h⟩ (unhide HW))
  | true =>
  rw [h1] at HOK
  have hn := seaB_n h1
  have HPL := hide fun V => isOnSea_any s x dao dc (.slice fao fn fc) V hn
  unfold vSea at HPL
  cases h2 : onB s x with
  | false =>
    have HC : Hid (CheapAns s x [] false) := Or.inr ⟨by rw [h1, h2]; rfl, rfl, rfl⟩
    rw [h2] at HPL
    go_enter Try.func8, Try.ntmps8
    go_wp2_with fail
    refine (unhide HOK).mono ?_
    rintro e w1 ⟨rfl, hb⟩
    replace HW := hide (Below.step (unhide HW) hb)
    replace HO := hide (OwnV.step (unhide HO) hb)
    clear hb HOK b0 b1 b2 b3
    have b0 := (unhide HO).cell (i := 0) rfl
    have b1 := (unhide HO).cell (i := 1) rfl
    have b2 := (unhide HO).cell (i := 2) rfl
    have b3 := (unhide HO).cell (i := 3) rfl
    go_wp2_with fail
    refine (unhide HPL _).mono ?_
    rintro e w2 ⟨rfl, hb⟩
    replace HW := hide (Below.step (unhide HW) hb)
    clear hb HPL
    go_wp2
    refine bodyPost_ret (v := .tuple #[.slice none 0 0, .bool false]) (by simp [results, Try.results8, go_sem]) rfl (cheapPost_mk (unhide HC) ⟨none, 0, rfl, Nat.le_refl _, Nat.zero_le _, fun h => absurd rfl h⟩ (unhide HW))
  | true =>
  rw [h2] at HPL
  obtain ⟨xi, rfl, hxi⟩ : ∃ q : Nat, x = (q : Int) ∧ q < s.D.length := by
    have h3 := h2
    unfold onB at h3
    obtain ⟨a, b⟩ := inB_true h3
    exact ⟨x.toNat, by omega, by omega⟩
  obtain ⟨bd, od, rfl, hcd⟩ := unhide HDC xi hxi
  have hxiI : (xi : Int) < s.D.length := by omega
  have hle := hn.le
  have hleI : (s.D.length : Int) ≤ 144 := by omega
  obtain ⟨dx, edx⟩ : ∃ c, s.D.getD xi 0 = c := ⟨_, rfl⟩
  have EDX := hide edx
  have hdx0 := (hn.cost xi hxi).1
  rw [edx] at hdx0
  have HN := hide hn
  have H1 := hide h1
  have H12 : Hid ((seaB s && onB s (xi : Int)) = true) := by show _ = _; rw [h1, h2]; rfl
  have HSA := hide fun V h q => isSailed_any s q (some ⟨bd, od, none⟩) s.D.length dc (.slice fao fn fc) V hn h
  have HNB := hide fun V h q => neighbours_any s q (some ⟨bd, od, none⟩) s.D.length dc (.slice fao fn fc) V hn h
  unfold vSea at HSA HNB
  have hsx : sailB s (xi : Int) = !decide (dx = 0) := by unfold sailB; rw [h2]; show (true && !decide (s.D.getD xi 0 = 0)) = _; rw [edx]; rfl
  clear hcd edx hn h1 h2
  go_enter Try.func8, Try.ntmps8
  go_wp2_with fail
  refine (unhide HOK).mono ?_
  rintro e w1 ⟨rfl, hb⟩
  replace HW := hide (Below.step (unhide HW) hb)
  replace HO := hide (OwnV.step (unhide HO) hb)
  clear hb HOK b0 b1 b2 b3
  have b0 := (unhide HO).cell (i := 0) rfl
  have b1 := (unhide HO).cell (i := 1) rfl
  have b2 := (unhide HO).cell (i := 2) rfl
  have b3 := (unhide HO).cell (i := 3) rfl
  go_wp2_with fail
  refine (unhide HPL _).mono ?_
  rintro e w2 ⟨rfl, hb⟩
  replace HW := hide (Below.step (unhide HW) hb)
  replace HO := hide (OwnV.step (unhide HO) hb)
  clear hb HPL b0 b1 b2 b3
  have b2 := (unhide HO).cell (i := 2) rfl
  have A1 := Below.alloc1 w2 (.cells #[.int .i64 (-1)] 3)
  have HRE := hide (repeat1_any w2.heap.size 0 1 (-1) s.D.length (w2.alloc (.cells #[.int .i64 (-1)] 3)) ((ownV_alloc w2 #[.int .i64 (-1)] 3).cell (i := 0) rfl) (by omega) (by omega))
  replace HW := hide (Below.step (unhide HW) A1)
  replace HO := hide (OwnV.step (unhide HO) A1)
  have b2' := (unhide HO).cell (i := 2) rfl
  clear A1
  go_wp2_with fail
  refine (unhide HRE).mono ?_
  rintro e w3 ⟨gh, rfl, hgh, hoh, hb⟩
  replace HW := hide (Below.step (unhide HW) hb)
  replace HO := hide (OwnV.step (unhide HO) hb)
  have hghs : w.heap.size < gh := by have h8 : w.heap.size < w2.heap.size := lt_of_cell b2; simp only [World.size_alloc] at hgh; omega
  have HQ : Hid (QI w w3 [.int .i64 s.wd, .int .i64 s.hg, .slice (some ⟨bd, od, none⟩) s.D.length dc, .slice fao fn fc] gh (List.replicate s.D.length (-1))) := ⟨unhide HW, unhide HO, hoh, hghs⟩
  clear hb HRE b2 b2' hoh hgh HW HO
  have hgl := (unhide HQ).oo.lt
  have A1 := Below.alloc1 w3 (.cells #[.slice none 0 0] 61)
  have HDQ : Hid (DQ w (w3.alloc (.cells #[.slice none 0 0] 61)) [.int .i64 s.wd, .int .i64 s.hg, .slice (some ⟨bd, od, none⟩) s.D.length dc, .slice fao fn fc] gh w3.heap.size (List.replicate s.D.length (-1)) (.slice none 0 0) 0 []) :=
    ⟨(unhide HQ).step A1, ⟨ownV_alloc w3 #[.slice none 0 0] 61, ⟨rfl, Or.inl ⟨rfl, rfl⟩⟩, rfl, by omega⟩, hgl⟩
  have HO := hide (unhide HDQ).q.ob
  have b0 := (unhide HO).cell (i := 0) rfl
  have b1 := (unhide HO).cell (i := 1) rfl
  have b2 := (unhide HO).cell (i := 2) rfl
  have b3 := (unhide HO).cell (i := 3) rfl
  have HSA1 := hide (unhide HSA _ ((unhide HD).below (unhide HDQ).q.below) (xi : Int))
  rw [hsx] at HSA1
  clear A1 HQ
  go_wp2_with fail
  refine (unhide HSA1).mono ?_
  rintro e w4 ⟨rfl, hb⟩
  replace HDQ := hide ((unhide HDQ).step hb)
  have hz3 := hb.size
  simp only [World.size_alloc] at hz3
  generalize w3.heap.size = gf at *
  clear hb HSA1 b0 b1 b2 b3 HO
  by_cases hd0 : dx = 0
  · have HC : Hid (CheapAns s (xi : Int) (List.replicate s.D.length (-1)) true) := Or.inl ⟨unhide H12, rfl, by simp, Or.inl ⟨by show s.D.getD xi 0 = 0; rw [unhide EDX]; exact hd0, rfl⟩⟩
    have HOW := hide ((unhide HDQ).q.own (by simp; exact hle))
    rw [List.length_replicate] at HOW
    have HWW := hide (unhide HDQ).q.below
    have c0 := (unhide HDQ).fr.box.cell (i := 0) rfl
    have hd1 : (!decide (dx = 0)) = false := by simp [hd0]
    rw [hd1]
    have HLE := hide (lenR_any none 0 0 w4)
    clear hd1 hd0 hsx
    go_wp2
    go_loopg [8] 0 (fun g v8 wr => wr = w4)
    case atStart => rfl
    case round =>
      subst hrel
      go_wp2_with fail
      refine (unhide HLE).mono ?_
      rintro e w' ⟨rfl, h9⟩
      subst h9
      go_wp2
      refine bodyPost_ret (v := .tuple #[.slice (some ⟨gh, 0, none⟩) s.D.length s.D.length, .bool true]) (by simp [results, Try.results8, go_sem]) rfl (cheapPost_mk (unhide HC) (unhide HOW) (unhide HWW))
  have hd1 : (!decide (dx = 0)) = true := by simp [hd0]
  rw [hd1]
  have hdx : 0 < dx := by omega
  clear hd1 hsx hd0
  have HPU := hide (heapPush_any (gf + 1) gf (.slice none 0 0) 0 [] 0 (xi : Int) w4 (unhide HDQ).fr (fun c h0 hc => by omega) (by omega) (by omega))
  go_wp2_with fail
  refine (unhide HPU).mono ?_
  rintro e w5 ⟨rfl, g1, cap1, L1, hf, hp, hmem, hat, hk⟩
  have hl1 := one_list hf.len hmem
  subst hl1
  obtain ⟨hq1, hq2⟩ := (unhide HDQ).lt
  have hq3 := (unhide HDQ).hg
  have HD5 : Hid (DQ w w5 [.int .i64 s.wd, .int .i64 s.hg, .slice (some ⟨bd, od, none⟩) s.D.length dc, .slice fao fn fc] gh gf (List.replicate s.D.length (-1)) (.slice (some ⟨g1, 0, none⟩) 1 cap1) 1 [(0, (xi : Int))]) :=
    ⟨(unhide HDQ).q.kept hk (fun e => by rcases e with e | e; omega; cases e) (fun e => by rcases e with e | e; omega; cases e) (fun b e => by rcases e with e | e; omega; cases e), hf, hq3⟩
  have HP5 := hide hp
  have HJ5 := hide (dj_start hxi (by rw [unhide EDX]; exact hdx))
  clear hf hp hmem hat hk HPU HDQ hz3
  go_wp2
  go_loopg [8] (5 * s.D.length + 1) (fun g v8 wr => ∃ (M : List Int) (L : List Rc) (t : Int) (n : Nat) (sv : Value), g = 5 * (s.D.length - cnt M) + n ∧ g ≤ 5 * s.D.length + 1 ∧ Hid (DQ w wr [.int .i64 s.wd, .int .i64 s.hg, .slice (some ⟨bd, od, none⟩) s.D.length dc, .slice fao fn fc] gh gf M sv n L) ∧ Hid (Hp L n) ∧ Hid (Dj s xi M L t (fun _ _ => False)))
  case atStart => exact ⟨_, _, 0, 1, _, by rw [cnt_none]; omega, Nat.le_refl _, HD5, HP5, HJ5⟩
  case round =>
    clear HD5 HP5 HJ5
    obtain ⟨M, L, t, n, sv, hg1, hg2, HQ, HP, HJ⟩ := hrel
    have HG1 := hide hg1
    have hnb : n ≤ 5 * s.D.length + 1 := by omega
    clear hg1
    have hML := (unhide HJ).len
    have hML1 : M.length ≤ s.D.length := by omega
    have hML2 : s.D.length ≤ M.length := by omega
    have HML := hide hML
    clear hML
    obtain ⟨a, cap, rfl, hcap⟩ := (unhide HQ).fr.sl
    have c0 := (unhide HQ).fr.box.cell (i := 0) rfl
    have HLE := hide (lenR_any a n cap wr)
    obtain ⟨hq1, hq2⟩ := (unhide HQ).lt
    have hq3 := (unhide HQ).hg
    cases n with
    | zero =>
      have hL0 : L = [] := by have := (unhide HQ).fr.len; exact List.eq_nil_of_length_eq_zero this.symm
      subst hL0
      have HC : Hid (CheapAns s (xi : Int) M true) := Or.inl ⟨unhide H12, rfl, unhide HML, Or.inr ⟨by show s.D.getD xi 0 ≠ 0; rw [unhide EDX]; omega, (unhide HJ).proved (unhide HN) (unhide H1) hxi (by rw [unhide EDX]; exact hdx)⟩⟩
      have HOW := hide ((unhide HQ).q.own (by omega))
      rw [unhide HML] at HOW
      have HWW := hide (unhide HQ).q.below
      clear HJ HP HQ
      go_wp2_with fail
      refine (unhide HLE).mono ?_
      rintro e w' ⟨rfl, h9⟩
      subst h9
      go_wp2
      refine bodyPost_ret (v := .tuple #[.slice (some ⟨gh, 0, none⟩) s.D.length s.D.length, .bool true]) (by simp [results, Try.results8, go_sem]) rfl (cheapPost_mk (unhide HC) (unhide HOW) (unhide HWW))
    | succ m =>
    have hLl := (unhide HQ).fr.len
    obtain ⟨g, cap', eg, hcap', hgB⟩ := (unhide HQ).fr.got
    simp only [Value.slice.injEq, true_and] at eg
    obtain ⟨rfl, rfl⟩ := eg
    have hin : L.getD 0 (0, 0) ∈ L := rc_mem (by omega)
    have HLS : Hid (∀ e, e ∈ L → (L.getD 0 (0, 0)).1 ≤ e.1) := fun e he => rc_least (by rw [← hLl]; exact unhide HP) he
    have HCH := hide (frCheapest_any (gf + 1) gf g m cap L wr (unhide HQ).fr.fr (unhide HP) (by omega) hcap')
    obtain ⟨p, ep, hpn, hdp, htc, hcb, hwy⟩ := (unhide HJ).ent _ hin
    have hct := (unhide HJ).cnt_le
    have ht0 := (unhide HJ).t0
    obtain ⟨c, ec⟩ : ∃ c, (L.getD 0 (0, 0)).1 = c := ⟨_, rfl⟩
    have hz : L.getD 0 (0, 0) = (c, (p : Int)) := by rw [← ec, ← ep]
    rw [ec] at HLS
    rw [hz] at HCH
    rw [ec] at htc hcb
    dsimp only at HCH
    have hc0 : 0 ≤ c := by omega
    have hc1 : c ≤ 144000 := by omega
    have hpI : (p : Int) < s.D.length := by omega
    clear hwy hin ep ec hz hLl
    go_wp2_with fail
    refine (unhide HLE).mono ?_
    rintro e w' ⟨rfl, h9⟩
    subst h9
    clear HLE
    have hm0 : (0 : Int) < ((m + 1 : Nat) : Int) := by omega
    go_wp2_with fail
    refine (unhide HCH).mono ?_
    rintro e w2 ⟨rfl, L', hp, hmem, hf, hk⟩
    have hgl := ((unhide HQ).fr.own (g := g) rfl).2
    have A1 := Below.alloc1 w2 (.cells #[.int .i64 c, .int .i64 (p : Int)] 64)
    have HQ2 : Hid (DQ w w2 [.int .i64 s.wd, .int .i64 s.hg, .slice (some ⟨bd, od, none⟩) s.D.length dc, .slice fao fn fc] gh gf M (.slice (some ⟨g, 0, none⟩) m cap) m L') :=
      ⟨(unhide HQ).q.kept hk (fun e => by omega) (fun e => by omega) (fun b e => by omega), FrN.of hf (by omega), hq3⟩
    have HNW := hide (ownV_alloc w2 #[.int .i64 c, .int .i64 (p : Int)] 64)
    have hz2 := hk.size
    have HP2 := hide hp
    have HM2 := hide hmem
    replace HQ2 := hide ((unhide HQ2).step A1)
    have cp := (unhide HQ2).q.oo.cell (i := p) (ints_at (by omega))
    have fp := (unhide HQ2).q.oo.frozen
    have n0 := (unhide HNW).cell (i := 0) rfl
    have n1 := (unhide HNW).cell (i := 1) rfl
    obtain ⟨mp, emp⟩ : ∃ z, M.getD p 0 = z := ⟨_, rfl⟩
    have hlow := (unhide HJ).low p hpn
    rw [emp] at cp hlow
    have EMP := hide emp
    clear hp hmem hf hk A1 HCH HQ HP c0 emp
    by_cases hmp : mp = -1
    case neg =>
      have HJ2 := hide ((unhide HJ).old (unhide HM2) (by rw [unhide EMP]; omega))
      have dm : (mp != -1) = true := by simp [hmp]
      go_wp2
      go_roundg (5 * (s.D.length - cnt M) + m)
      case measure => have := unhide HG1; omega
      case rel => exact ⟨M, L', t, m, _, rfl, by have := unhide HG1; omega, HQ2, HP2, HJ2⟩
    subst hmp
    obtain ⟨hj, hcn, -, -, -, hx0⟩ := (unhide HJ).settle (unhide HN) (unhide HM2) (unhide HLS) (by rw [unhide EMP]; omega)
    have hct2 : cnt M + 1 ≤ s.D.length := by have := hj.cnt_le; omega
    have HQ3 := hide ((unhide HQ2).put (p := p) (by omega) c)
    have HX0 := hide hx0
    have HCN := hide hcn
    have HMP : Hid ((M.set p c).getD p 0 = c) := by show _ = _; rw [getD_set (by omega), if_pos rfl]
    have HML3 : Hid ((M.set p c).length = s.D.length) := by show _ = _; rw [List.length_set]; exact unhide HML
    have HJ3 : Hid (Dj s xi (M.set p c) L' c (fun p' q => q = p ∧ (p' : Int) ∈ (nbs s.wd s.D.length (p : Int)).drop 0)) := hj.less (fun p' q h1 h2 h3 h4 _ _ => ⟨h3, by
      rw [List.drop_zero, nbs_mem (unhide HN) (by omega) hpI]
      exact ⟨by omega, by omega, by rw [next_comm, ← h3]; exact h4⟩⟩)
    have HN3 := hide ((unhide HNW).other (a := ⟨gh, p, none⟩) (by show w2.heap.size ≠ gh; omega) (.int .i64 c))
    have hq4 := (unhide HQ2).lt.2
    have hz4 : ((w2.alloc (.cells #[.int .i64 c, .int .i64 (p : Int)] 64)).setCell ⟨gh, p, none⟩ (.int .i64 c)).heap.size = w2.heap.size + 1 := by rw [World.size_setCell, World.size_alloc]
    go_upto_region 11 with (fail)
    obtain ⟨V, eV⟩ : ∃ z, z = (w2.alloc (.cells #[.int .i64 c, .int .i64 (p : Int)] 64)).setCell ⟨gh, p, none⟩ (.int .i64 c) := ⟨_, rfl⟩
    rw [← eV] at HQ3 HN3 hz4 ⊢
    obtain ⟨gN, egN⟩ : ∃ z, z = w2.heap.size := ⟨_, rfl⟩
    rw [← egN] at HN3 hz4 ⊢
    have hgN1 : g < gN := by omega
    have hgN2 : gf < gN := by omega
    have hgN3 : w.heap.size < gN := by omega
    clear eV egN cp fp n0 n1 hq4 HNW HQ2 hj hcn hx0 hz2
    obtain ⟨M', eM'⟩ : ∃ z, z = M.set p c := ⟨_, rfl⟩
    rw [← eM'] at HQ3 HX0 HCN HMP HML3 HJ3
    have HMM : Hid (∀ e : Nat, e ≠ p → M'.getD e 0 = M.getD e 0) := fun e he => by rw [eM', getD_set (by omega), if_neg he]
    clear eM'
    obtain ⟨NB, eNB⟩ : ∃ z, z = nbs s.wd s.D.length (p : Int) := ⟨_, rfl⟩
    have HMEM : Hid (∀ b, b ∈ NB ↔ (0 ≤ b ∧ b < s.D.length ∧ nextB s.wd (p : Int) b = true)) := fun b => by rw [eNB]; exact nbs_mem (unhide HN) (by omega) hpI
    have hNB4 : NB.length ≤ 4 := by rw [eNB]; exact nbs_len _ _ _
    have HNB1 := hide (unhide HNB V ((unhide HD).below (unhide HQ3).q.below) (p : Int) (by omega) hpI)
    rw [← eNB] at HNB1 HJ3
    have HO := hide (unhide HQ3).q.ob
    have b0 := (unhide HO).cell (i := 0) rfl
    have b1 := (unhide HO).cell (i := 1) rfl
    have b2 := (unhide HO).cell (i := 2) rfl
    have b3 := (unhide HO).cell (i := 3) rfl
    have n1 := (unhide HN3).cell (i := 1) rfl
    clear eNB
    go_wp2_with fail
    refine (unhide HNB1).mono ?_
    rintro e wi ⟨na, nn, ncp, rfl, hno, hb⟩
    have hnn := hno.at
    subst hnn
    have HNR : Hid (∀ k, k < NB.length → ∃ g2, na = some ⟨g2, 0, none⟩ ∧ gN < g2 ∧ OwnV wi g2 (ints NB)) := fun k hk => by
      obtain ⟨g2, e1, e2, e3⟩ := hno.row hk
      exact ⟨g2, e1, by omega, e3⟩
    replace HQ3 := hide ((unhide HQ3).step hb)
    replace HN3 := hide ((unhide HN3).step hb)
    have hzi : gN < wi.heap.size := by have := hb.size; omega
    have HKI := hide (Kept.refl (fun b => b = gf ∨ b = g) wi)
    have HFI := hide (unhide HQ3).fr
    have HQI := hide (unhide HQ3).q
    clear hb hno HNB1 b0 b1 b2 b3 n1 HO HQ3 hz4
    generalize wr = wo at *
    go_wp2
    go_loopg [61] NB.length (fun g2 kv wr => ∃ (k : Nat) (H : List Rc) (n : Nat) (sv : Value), k ≤ NB.length ∧ g2 = NB.length - k ∧ kv = .int .i64 (k : Int) ∧ n ≤ m + k ∧ Hid (FrN wr (gf + 1) gf sv n H) ∧ Hid (Hp H n) ∧ Hid (Dj s xi M' H c (fun p' q => q = p ∧ (p' : Int) ∈ NB.drop k)) ∧ Hid (Kept (fun b => b = gf ∨ b = g) wi wr) ∧ Hid (∀ b, sv.ownBlock = some b → b = g ∨ wi.heap.size ≤ b))
    case atStart => exact ⟨0, L', m, _, Nat.zero_le _, rfl, rfl, by omega, HFI, HP2, HJ3, HKI, fun b e => Or.inl (by simpa [Value.ownBlock] using e.symm)⟩
    case round =>
      clear HFI HP2 HJ3 HKI
      obtain ⟨k, H, n, sv, hk, rfl, rfl, hnk, HF, HHp, HJ4, HK, HSV⟩ := hrel
      have hzw := (unhide HK).size
      have HQ4 := hide ((unhide HQI).kept (unhide HK) (fun e => by omega) (fun e => by omega) (fun b e => by omega))
      have HN4 := hide ((unhide HN3).kept (unhide HK) (fun e => by omega))
      by_cases hkn : k < NB.length
      case neg =>
        have hke : k = NB.length := by omega
        subst hke
        have hki : ¬ (NB.length : Int) < NB.length := by omega
        have HJ5 : Hid (Dj s xi M' H c (fun _ _ => False)) := (unhide HJ4).less (fun p' q _ _ h3 _ _ _ => by rw [List.drop_length] at h3; simp at h3)
        have HQ5 : Hid (DQ w wr [.int .i64 s.wd, .int .i64 s.hg, .slice (some ⟨bd, od, none⟩) s.D.length dc, .slice fao fn fc] gh gf M' sv n H) := ⟨unhide HQ4, unhide HF, hq3⟩
        clear HQ4 HN4 HJ4 HF
        go_wp2
        go_roundg (5 * (s.D.length - cnt M') + n)
        case measure => have := unhide HG1; have := unhide HCN; omega
        case rel => exact ⟨M', H, c, n, sv, rfl, by have := unhide HG1; have := unhide HCN; omega, HQ5, HHp, HJ5⟩
      have hki : (k : Int) < NB.length := by omega
      obtain ⟨g2, rfl, hg2, ho2⟩ := unhide HNR k hkn
      have ho3 := ho2.kept (unhide HK) (fun e => by omega)
      have cy := ho3.cell (i := k) (ints_at hkn)
      have hym : NB.getD k 0 ∈ NB := by rw [getD_lt hkn]; exact List.getElem_mem hkn
      have hdr : NB.drop k = NB.getD k 0 :: NB.drop (k + 1) := by rw [getD_lt hkn]; exact List.drop_eq_getElem_cons hkn
      obtain ⟨y0, y1, ynx⟩ := (unhide HMEM _).1 hym
      obtain ⟨yn, eyn⟩ : ∃ q : Nat, NB.getD k 0 = (q : Int) := ⟨(NB.getD k 0).toNat, by omega⟩
      rw [eyn] at cy hdr y0 y1 ynx
      have hyn : yn < s.D.length := by omega
      have HDR := hide hdr
      have HYX := hide ynx
      obtain ⟨dy, edy⟩ : ∃ c, s.D.getD yn 0 = c := ⟨_, rfl⟩
      have hdy := (unhide HN).cost yn hyn
      rw [edy] at hdy
      obtain ⟨hdy0, hdy1⟩ := hdy
      have EDY := hide edy
      obtain ⟨my, emy⟩ : ∃ c, M'.getD yn 0 = c := ⟨_, rfl⟩
      have hmy := (unhide HJ4).low yn hyn
      rw [emy] at hmy
      have EMY := hide emy
      have hmlt : yn < M'.length := by have := unhide HML3; omega
      obtain ⟨bd', od', ebd, hcd⟩ := unhide HDC yn hyn
      simp only [Option.some.injEq, Addr.mk.injEq, and_true] at ebd
      obtain ⟨rfl, rfl⟩ := ebd
      rw [edy] at hcd
      have HCD := hide hcd
      have HO := hide (unhide HQ4).ob
      have b0 := (unhide HO).cell (i := 0) rfl
      have b1 := (unhide HO).cell (i := 1) rfl
      have b2 := (unhide HO).cell (i := 2) rfl
      have b3 := (unhide HO).cell (i := 3) rfl
      have hsy : sailB s (yn : Int) = !decide (dy = 0) := by
        unfold sailB
        rw [show onB s (yn : Int) = true by unfold onB; exact inB_mk (by omega) (by omega)]
        show (true && !decide (s.D.getD yn 0 = 0)) = _
        rw [edy]
        rfl
      have HSA2 := hide (unhide HSA wr ((unhide HD).below (unhide HQ4).below) (yn : Int))
      rw [hsy] at HSA2
      clear ho2 ho3 hym hdr y0 ynx eyn edy emy hcd hsy
      go_wp2_with fail
      refine (unhide HSA2).mono ?_
      rintro e w6 ⟨rfl, hb⟩
      replace HQ4 := hide ((unhide HQ4).step hb)
      replace HN4 := hide ((unhide HN4).step hb)
      replace HF := hide ((unhide HF).below hb)
      replace HK := hide ((unhide HK).trans (kept_of_below hb))
      replace hzw := (unhide HK).size
      clear hb HSA2 b0 b1 b2 b3 HO cy
      by_cases hd0 : dy = 0
      case pos =>
        have hd1 : (!decide (dy = 0)) = false := by simp [hd0]
        rw [hd1]
        have HJ5 : Hid (Dj s xi M' H c (fun p' q => q = p ∧ (p' : Int) ∈ NB.drop (k + 1))) := (unhide HJ4).less (fun p' q _ _ h3 _ h5 h6 => by rw [unhide HDR] at h3; rcases h3 with ⟨e1, h3⟩; rw [List.mem_cons] at h3; rcases h3 with h3 | h3; exact absurd h3 (fun e => by have e' : p' = yn := (by omega); subst e'; have := unhide EDY; omega); exact ⟨e1, h3⟩)
        clear hd1
        go_wp2
        go_roundg (NB.length - (k + 1))
        case measure => omega
        case rel => exact ⟨k + 1, H, n, sv, by omega, rfl, by go_num, by omega, HF, HHp, HJ5, HK, HSV⟩
      have hd1 : (!decide (dy = 0)) = true := by simp [hd0]
      rw [hd1]
      have cm := (unhide HQ4).oo.cell (i := yn) (ints_at hmlt)
      rw [unhide EMY] at cm
      by_cases hm1 : my = -1
      case neg =>
        have dm : (my == -1) = false := by simp [hm1]
        have HJ5 : Hid (Dj s xi M' H c (fun p' q => q = p ∧ (p' : Int) ∈ NB.drop (k + 1))) := (unhide HJ4).less (fun p' q _ _ h3 _ h5 h6 => by rw [unhide HDR] at h3; rcases h3 with ⟨e1, h3⟩; rw [List.mem_cons] at h3; rcases h3 with h3 | h3; exact absurd h3 (fun e => by have e' : p' = yn := (by omega); subst e'; have := unhide EMY; omega); exact ⟨e1, h3⟩)
        clear hd1
        go_wp2
        go_roundg (NB.length - (k + 1))
        case measure => omega
        case rel => exact ⟨k + 1, H, n, sv, by omega, rfl, by go_num, by omega, HF, HHp, HJ5, HK, HSV⟩
      subst hm1
      have HPU := hide fun X hX hB => heapPush_any (gf + 1) gf sv n H (c + dy) (yn : Int) X hX (unhide HHp) (by omega) hB
      have t0 := (unhide HN4).cell (i := 0) rfl
      have t1 := (unhide HQ4).ob.cell (i := 2) rfl
      have t2 := wcell3 (unhide HCD) (unhide HQ4).below
      have hwq : IntKind.i64.wrap (c + dy) = c + dy := by rw [IntKind.wrap_i64]; omega
      have yn1 : (yn : Int) < s.D.length := by omega
      have hdy2 : 0 < dy := by omega
      clear hd1 hd0
      go_wp2_with fail
      go_region_held3 (fun z => z.cell? ⟨gN, 0, none⟩ = some (.int .i64 c) ∧ z.cell? ⟨w.heap.size, 2, none⟩ = some (.slice (some ⟨bd, od, none⟩) s.D.length dc) ∧ z.cell? ⟨bd, od + yn, none⟩ = some (.int .i64 dy)) (go_keep) (first | (go_at_call 32; refine (unhide HPU _ (by first | exact unhide HF | exact (unhide HF).below (Below.refl _ _).drew) (by have := (unhide HF).box.lt; first | omega | (show gf + 1 ≤ w6.heap.size; omega))).mono ?_; rintro e w7 ⟨rfl, g3, cap3, H', hf, hp, hmem, hat, hk0⟩; have hk7 : Kept (fun b => b = gf ∨ sv.ownBlock = some b) w6 w7 := (by first | exact hk0 | exact Kept.drewL hk0); have HK7 : Hid (Kept (fun b => b = gf ∨ b = g) wi w7) := ((unhide HK).on hk7 (fun b hb e => by rcases e with e | e; exact Or.inl e; rcases unhide HSV b e with e | e; exact Or.inr e; omega)); have HF7 := hide hf; have HP7 := hide hp; have HM7 := hide hmem; have HS7 : Hid (∀ b, (Value.slice (some ⟨g3, 0, none⟩) (n + 1) cap3).ownBlock = some b → b = g ∨ wi.heap.size ≤ b) := (fun b e => by have e' : g3 = b := (by simpa [Value.ownBlock] using e); subst e'; rcases hat with h | h; exact unhide HSV _ h; right; first | omega | (have h' : w6.heap.size ≤ g3 := h; omega)); have HN7 := hide ((unhide HN3).kept (unhide HK7) (fun e => by omega)); have HQ7 := hide ((unhide HQI).kept (unhide HK7) (fun e => by omega) (fun e => by omega) (fun b e => by omega)); have s0 := (unhide HN7).cell (i := 0) rfl; have s1 := (unhide HQ7).ob.cell (i := 2) rfl; have s2 := wcell3 (unhide HCD) (unhide HQ7).below; clear hf hp hmem hat hk0 hk7))
      have HJ7 : Hid (Dj s xi M' H' c (fun p' q => q = p ∧ (p' : Int) ∈ NB.drop (k + 1))) := (unhide HJ4).push (p := yn) (q := p) (unhide HN) hyn hpn (unhide HMP) (by rw [unhide EDY]; omega) (by rw [next_comm]; exact unhide HYX) (unhide HX0) (fun e => by rw [unhide EDY]; exact unhide HM7 e) (fun p' q' h => by
        rw [unhide HDR, List.mem_cons] at h
        rcases h with ⟨e1, h | h⟩
        · exact Or.inl ⟨by omega, e1⟩
        · exact Or.inr ⟨e1, h⟩)
      go_wp2
      go_roundg (NB.length - (k + 1))
      case measure => omega
      case rel => exact ⟨k + 1, H', n + 1, _, by omega, rfl, by go_num, by omega, HF7, HP7, HJ7, HK7, HS7⟩

end Go.Proofs.Ytdpcacfgbjllhaa

/- Contracts of the laws' own markSea and heldSea. -/
namespace Go.Proofs.Ytdpcacfgbjllhaa
open Go.RowKit

theorem markClosedS_nil (ao : Option Addr) (cap : Nat) (k : Int) (w : World) : Calls Try.prog 54 #[.slice ao 0 cap, .int .i64 k] w fun e w' => e = .returned (.int .i64 k) ∧ w = w' := by
  go_enter Try.func54, Try.ntmps54
  go_wp2
  go_loopg [1, 5] 0 (fun _ kv iv wr => w = wr ∧ iv = .int .i64 0 ∧ kv = .int .i64 k)
  case atStart => exact ⟨rfl, rfl, rfl⟩
  case round =>
    obtain ⟨rfl, rfl, rfl⟩ := hrel
    go_wp2
    go_ret
    exact ⟨rfl, rfl⟩
/-- A list of features at block g, where there is one. -/
def ClAt (w : World) (ao : Option Addr) (g : Nat) (vs : List Value) (F : List ClosedT) : Prop := F ≠ [] → ao = some ⟨g, 0, none⟩ ∧ OwnV w g vs
def clMarks (k : Int) (n : Nat) : List Value := (List.range (n * 6)).map (mkClosed k)

theorem markClosedS_o (ao : Option Addr) (cap : Nat) (F : List ClosedT) (k : Int) (g : Nat) (w : World) (h : ClAt w ao g (recCells 6 eClosed F) F) (hn : F.length ≤ 1048576) (hk0 : 0 ≤ k) (hk1 : k ≤ 1152921504606846976) :
    Calls Try.prog 54 #[.slice ao F.length cap, .int .i64 k] w fun e w' => e = .returned (.int .i64 (k + 6 * (F.length : Int))) ∧ Kept (fun b => b = g ∧ F ≠ []) w w' ∧ ClAt w' ao g (clMarks k F.length) F := by
  by_cases hne : F = []
  · subst hne
    refine (markClosedS_nil ao cap k w).mono ?_
    rintro e w' ⟨rfl, rfl⟩
    exact ⟨by simp, Kept.refl _ _, fun h => absurd rfl h⟩
  · obtain ⟨rfl, ho⟩ := h hne
    refine (markClosedS_any g cap F.length _ k w ho (by rw [recCells_length]; omega) hn hk0 hk1).mono ?_
    rintro e w' ⟨rfl, hk, ho'⟩
    exact ⟨rfl, hk.mono (fun b _ hb => ⟨hb, hne⟩), fun _ => ⟨rfl, ho'⟩⟩
theorem ClAt.step {w w' : World} {ao : Option Addr} {g : Nat} {vs : List Value} {F : List ClosedT} (h : ClAt w ao g vs F) (hb : Below w.heap.size w w') : ClAt w' ao g vs F := fun hne => ⟨(h hne).1, (h hne).2.step hb⟩
theorem ClAt.kept {T : Nat → Prop} {w w' : World} {ao : Option Addr} {g : Nat} {vs : List Value} {F : List ClosedT} (h : ClAt w ao g vs F) (hk : Kept T w w') (hg : ¬ T g) : ClAt w' ao g vs F := fun hne => ⟨(h hne).1, (h hne).2.kept hk hg⟩

set_option maxHeartbeats 1600000 in
theorem markSea_any (wd hg : Int) (dao : Option Addr) (dc : Nat) (fao : Option Addr) (fc : Nat) (D : List Int) (F : List ClosedT) (g1 g2 : Nat) (k : Int) (w : World) (h1 : D ≠ [] → dao = some ⟨g1, 0, none⟩ ∧ OwnV w g1 (ints D)) (h2 : ClAt w fao g2 (recCells 6 eClosed F) F)
    (hne : g1 ≠ g2) (hl1 : g1 < w.heap.size) (hD : D.length ≤ 1048576) (hF : F.length ≤ 1048576) (hk0 : 0 ≤ k) (hk1 : k ≤ 1073741824) :
    Calls Try.prog 22 #[vSea wd hg (.slice dao D.length dc) (.slice fao F.length fc), .int .i64 k] w fun e w' => e = .returned (.int .i64 (k + D.length + 6 * (F.length : Int))) ∧ Kept (fun b => b = g1 ∨ b = g2) w w' ∧ (D ≠ [] → OwnV w' g1 (ints (marks k D.length))) ∧ ClAt w' fao g2 (clMarks (k + D.length) F.length) F := by
  have A := Below.alloc1 w (.cells #[.int .i64 wd, .int .i64 hg, .slice dao D.length dc, .slice fao F.length fc] 27)
  have HO := hide (ownV_alloc w #[.int .i64 wd, .int .i64 hg, .slice dao D.length dc, .slice fao F.length fc] 27)
  have HM1 := hide (markIntS_any dao dc D k g1 _ (fun h => ⟨(h1 h).1, (h1 h).2.step A⟩) hD hk0 (by omega))
  have H2 := hide (h2.step A)
  have HK := hide (kept_of_below (T := fun b => b = g1 ∨ b = g2) A)
  clear A h1 h2
  unfold vSea
  go_enter Try.func22, Try.ntmps22
  go_wp2_with fail
  refine (unhide HM1).mono ?_
  rintro e w1 ⟨rfl, hk, ho1⟩
  have c3 := OwnV.cell (OwnV.kept (unhide HO) hk (by omega)) (i := 3) rfl
  have H2' := hide ((unhide H2).kept hk (by omega))
  have HK1 := hide (Kept.trans (unhide HK) (hk.mono (fun b _ hb => Or.inl hb.1)))
  have HO1 := hide ho1
  clear hk ho1 HM1 HO H2 HK
  have HM2 := hide (markClosedS_o fao fc F (k + D.length) g2 w1 (unhide H2') hF (by omega) (by omega))
  go_wp2_with fail
  refine (unhide HM2).mono ?_
  rintro e w2 ⟨rfl, hk, ho2⟩
  have HK2 := hide (Kept.trans (unhide HK1) (hk.mono (fun b _ hb => Or.inr hb.1)))
  have HO1' : Hid (D ≠ [] → OwnV w2 g1 (ints (marks k D.length))) := fun h => OwnV.kept (unhide HO1 h) hk (by omega)
  have HO2 := hide ho2
  clear hk ho2 HM2 HO1 HK1 H2' c3
  go_wp2
  go_ret
  exact ⟨rfl, unhide HK2, unhide HO1', unhide HO2⟩

end Go.Proofs.Ytdpcacfgbjllhaa

/- Blocks of the call's own, of any cells: boxes and rows beside one another. No statement about the program stands here. -/
namespace Go.Proofs.Ytdpcacfgbjllhaa
open Go.RowKit

/-- The blocks L (number and first cells) of the call's own. -/
structure Blks (w W : World) (L : List (Nat × List Value)) : Prop where
  all : ∀ p ∈ L, OwnV W p.1 p.2
  below : Below w.heap.size w W
  own : ∀ p ∈ L, w.heap.size ≤ p.1
theorem Blks.step {w W W' : World} {L : List (Nat × List Value)} (h : Blks w W L) (hb : Below W.heap.size W W') : Blks w W' L := ⟨fun p hp => (h.all p hp).step hb, Below.step h.below hb, h.own⟩
theorem Blks.lt {w W : World} {L : List (Nat × List Value)} (h : Blks w W L) : ∀ p ∈ L, p.1 < W.heap.size := fun p hp => (h.all p hp).lt
theorem Blks.push {w W : World} {L : List (Nat × List Value)} (h : Blks w W L) {g : Nat} {vs : List Value} (ho : OwnV W g vs) (hg : w.heap.size ≤ g) : Blks w W ((g, vs) :: L) :=
  ⟨fun p hp => by rcases List.mem_cons.1 hp with rfl | hp; exact ho; exact h.all p hp, h.below, fun p hp => by rcases List.mem_cons.1 hp with rfl | hp; exact hg; exact h.own p hp⟩
theorem Blks.made {w W : World} {L : List (Nat × List Value)} (h : Blks w W L) (cs : Array Value) (t : TypeId) : Blks w (W.alloc (.cells cs t)) ((W.heap.size, cs.toList) :: L) :=
  (h.step (Below.alloc1 _ _)).push (ownV_alloc _ _ _) h.below.size
theorem Blks.at {w W : World} {L : List (Nat × List Value)} (h : Blks w W L) {g : Nat} {vs : List Value} (hp : (g, vs) ∈ L) : OwnV W g vs := h.all _ hp
theorem Blks.less {w W : World} {L L' : List (Nat × List Value)} (h : Blks w W L) (hs : ∀ p ∈ L', p ∈ L) : Blks w W L' := ⟨fun p hp => h.all p (hs p hp), h.below, fun p hp => h.own p (hs p hp)⟩
theorem Blks.apart {w W : World} {L : List (Nat × List Value)} (h : Blks w W L) {g : Nat} {vs : List Value} (hp : (g, vs) ∈ L) : ¬ W.heap.size = g ∧ ¬ g = W.heap.size := by
  have : g < W.heap.size := h.lt _ hp
  omega
theorem Blks.drew {w W : World} {L : List (Nat × List Value)} (h : Blks w W L) : Blks w W.drew L := ⟨fun p hp => (h.all p hp).drew, h.below.drew, h.own⟩
theorem Blks.kept {T : Nat → Prop} {w W W' : World} {L L' : List (Nat × List Value)} (h : Blks w W L) (hk : Kept T W W') (hT : ∀ b, T b → w.heap.size ≤ b) (hs : ∀ p ∈ L', p ∈ L ∧ ¬ T p.1) : Blks w W' L' :=
  ⟨fun p hp => (h.all p (hs p hp).1).kept hk (hs p hp).2, h.below.trans (hk.below h.below.size hT), fun p hp => h.own p (hs p hp).1⟩
theorem blks_nil (w : World) : Blks w w [] := ⟨fun p hp => by simp at hp, Below.refl _ _, fun p hp => by simp at hp⟩

end Go.Proofs.Ytdpcacfgbjllhaa

/- The law of Cheapest, walked. Written by wip/mkexact7.py. -/
namespace Go.Proofs.Ytdpcacfgbjllhaa
open Go.RowKit

set_option maxRecDepth 10000 in
set_option maxHeartbeats 8000000 in
theorem lawCheapest_any (s : Se) (dao : Option Addr) (dn dc : Nat) (fao : Option Addr) (fn fc : Nat) (x : Int) (w : World) (hD : IntsIn w (.slice dao dn dc) s.D) (hF : RClosed w (.slice fao fn fc) s.F) :
    Calls Try.prog 4 #[vSea s.wd s.hg (.slice dao dn dc) (.slice fao fn fc), .int .i64 x] w fun e w' => e = .returned (.bool true) ∧ Below w.heap.size w w' := by
  have HB := hide ((blks_nil w).made #[.int .i64 s.wd, .int .i64 s.hg, .slice dao dn dc, .slice fao fn fc] 42)
  obtain ⟨⟨M, V1⟩, hM, hCS⟩ := cheap_ex s x
  dsimp only at hM hCS
  have HSP := hide fun dao dn dc fao fn fc V h1 h2 => (specCheapest_any s dao dn dc fao fn fc x V h1 h2).mono (fun e w' h => cheap_got hCS h)
  have HI := hide fun dao dn dc fao fn fc V h1 h2 => (implCheapest_any s dao dn dc fao fn fc x V h1 h2).mono (fun e w' h => cheap_got hCS h)
  clear hCS
  have HSZ := hide (szSea_any s.wd s.hg dao dn dc fao fn fc s.D s.F 1048576 _ (hD.below (unhide HB).below) (hF.below (unhide HB).below) (by omega) (by omega))
  have HTO : Hid (s.D.length ≤ 1048576 → s.F.length ≤ 1048576 → ∀ V, Below w.heap.size w V → Calls Try.prog 19 #[vSea s.wd s.hg (.slice dao dn dc) (.slice fao fn fc)] V fun e w' => ∃ g1 g2, e = .returned (vSea s.wd s.hg (.slice (some ⟨g1, 0, none⟩) s.D.length s.D.length) (.slice (some ⟨g2, 0, none⟩) s.F.length s.F.length)) ∧ V.heap.size ≤ g1 ∧ g1 < g2 ∧ OwnV w' g1 (ints s.D) ∧ OwnV w' g2 (recCells 6 eClosed s.F) ∧ Below V.heap.size V w') :=
    fun h1 h2 V hV => toSea_any s.wd s.hg dao dn dc fao fn fc s.D s.F V (hD.below hV) (hF.below hV) h1 h2
  clear hD hF
  unfold vSea at HSZ HTO HSP HI ⊢
  go_enter Try.func4, Try.ntmps4
  go_wp2_with fail
  refine (unhide HSZ).mono ?_
  rintro e w1 ⟨r, rfl, hr0, hr1, hr2, hb⟩
  replace HB := hide ((unhide HB).step hb)
  have HR2 := hide hr2
  clear hb HSZ hr2
  by_cases hr : r < 0
  · have HW := hide (unhide HB).below
    go_wp2
    go_ret
    exact ⟨rfl, unhide HW⟩
  obtain ⟨hsD, hsF⟩ := unhide HR2 (by omega)
  replace HTO := hide (unhide HTO hsD hsF)
  have hq := (unhide HB).at (g := w.heap.size) (vs := [.int .i64 s.wd, .int .i64 s.hg, .slice dao dn dc, .slice fao fn fc]) (by simp)
  have a0 := hq.cell (i := 0) rfl
  have a1 := hq.cell (i := 1) rfl
  have a2 := hq.cell (i := 2) rfl
  have a3 := hq.cell (i := 3) rfl
  clear hq
  go_wp2_with fail
  refine (unhide HTO _ (unhide HB).below).mono ?_
  rintro e w2 ⟨g1, g2, rfl, hg1, hg2, ho1, ho2, hb⟩
  have zb := (unhide HB).below.size
  replace HB := hide ((unhide HB).step hb)
  have HC := hide (unhide HSP _ _ _ _ _ _ _ (OwnV.intsIn (ho1) (Nat.le_refl _) (by unfold maxLen; omega)) (OwnV.recsIn (ho2) (Nat.le_refl _) (by unfold maxLen; omega)))
  clear hb ho1 ho2 hg1 hg2 a0 a1 a2 a3
  go_wp2_with fail
  refine (unhide HC).mono ?_
  rintro e w3 ⟨ak, nk, ck, rfl, ho, hb⟩
  have zb2 := (unhide HB).below.size
  replace HB := hide ((unhide HB).step hb)
  have HS := hide ho.upto
  clear hb HC ho HSP
  have hq := (unhide HB).at (g := w.heap.size) (vs := [.int .i64 s.wd, .int .i64 s.hg, .slice dao dn dc, .slice fao fn fc]) (by simp)
  have a0 := hq.cell (i := 0) rfl
  have a1 := hq.cell (i := 1) rfl
  have a2 := hq.cell (i := 2) rfl
  have a3 := hq.cell (i := 3) rfl
  clear hq
  go_wp2_with fail
  refine (unhide HTO _ (unhide HB).below).mono ?_
  rintro e w4 ⟨g3, g4, rfl, hg3, hg4, ho1, ho2, hb⟩
  have hwB2 : w.heap.size < w3.heap.size := (unhide HB).lt (w.heap.size, [.int .i64 s.wd, .int .i64 s.hg, .slice dao dn dc, .slice fao fn fc]) (by simp)
  have hl3 := ho1.lt
  have hl4 := ho2.lt
  have AX := Below.step hb (Below.alloc1 w4 (.cells #[.int .i64 s.wd, .int .i64 s.hg, .slice (some ⟨g3, 0, none⟩) s.D.length s.D.length, .slice (some ⟨g4, 0, none⟩) s.F.length s.F.length] 27))
  replace HS := hide ((unhide HS).below AX)
  clear AX
  replace HB := hide (((((unhide HB).step hb).push ho1 (by omega)).push ho2 (by omega)).made #[.int .i64 s.wd, .int .i64 s.hg, .slice (some ⟨g3, 0, none⟩) s.D.length s.D.length, .slice (some ⟨g4, 0, none⟩) s.F.length s.F.length] 27)
  clear hb ho1 ho2 a0 a1 a2 a3
  have HIC := hide (unhide HI _ _ _ _ _ _ _ (OwnV.intsIn ((unhide HB).at (g := g3) (vs := ints s.D) (by simp)) (Nat.le_refl _) (by unfold maxLen; omega)) (OwnV.recsIn ((unhide HB).at (g := g4) (vs := recCells 6 eClosed s.F) (by simp)) (Nat.le_refl _) (by unfold maxLen; omega)))
  go_wp2_with fail
  refine (unhide HIC).mono ?_
  rintro e w5 ⟨ag, ng, cg, rfl, ho, hb⟩
  replace HB := hide ((unhide HB).step hb)
  replace HS := hide ((unhide HS).below hb)
  have hu := ho.upto
  simp only [World.size_alloc] at hu
  have HG := hide hu
  clear hu
  have z5 := hb.size
  simp only [World.size_alloc] at z5
  clear hb HIC ho
  generalize w4.heap.size = gx at *
  go_wp2_with fail
  refine (eqIntS_o _ _ M _ (unhide HG).inn (unhide HS).inn).mono ?_
  rintro e w6 ⟨rfl, hb⟩
  replace HB := hide ((unhide HB).step hb); replace HS := hide ((unhide HS).below hb); replace HG := hide ((unhide HG).below hb)
  have zw6 := hb.size
  clear hb
  have hq := (unhide HB).at (g := w.heap.size) (vs := [.int .i64 s.wd, .int .i64 s.hg, .slice dao dn dc, .slice fao fn fc]) (by simp)
  have a0 := hq.cell (i := 0) rfl
  have a1 := hq.cell (i := 1) rfl
  have a2 := hq.cell (i := 2) rfl
  have a3 := hq.cell (i := 3) rfl
  clear hq
  have hq := (unhide HB).at (g := gx) (vs := [.int .i64 s.wd, .int .i64 s.hg, .slice (some ⟨g3, 0, none⟩) s.D.length s.D.length, .slice (some ⟨g4, 0, none⟩) s.F.length s.F.length]) (by simp)
  have b0 := hq.cell (i := 0) rfl
  have b1 := hq.cell (i := 1) rfl
  have b2 := hq.cell (i := 2) rfl
  have b3 := hq.cell (i := 3) rfl
  clear hq
  go_wp2_with fail
  go_region_held3 (fun w' => w'.cell? ⟨w.heap.size, 0, none⟩ = some (.int .i64 s.wd) ∧ w'.cell? ⟨w.heap.size, 1, none⟩ = some (.int .i64 s.hg) ∧ w'.cell? ⟨w.heap.size, 2, none⟩ = some (.slice dao dn dc) ∧ w'.cell? ⟨w.heap.size, 3, none⟩ = some (.slice fao fn fc) ∧ w'.cell? ⟨gx, 0, none⟩ = some (.int .i64 s.wd) ∧ w'.cell? ⟨gx, 1, none⟩ = some (.int .i64 s.hg) ∧ w'.cell? ⟨gx, 2, none⟩ = some (.slice (some ⟨g3, 0, none⟩) s.D.length s.D.length) ∧ w'.cell? ⟨gx, 3, none⟩ = some (.slice (some ⟨g4, 0, none⟩) s.F.length s.F.length)) (go_keep) (first
    | (go_at_call 19; refine (unhide HTO _ (by first | exact (unhide HB).below | exact (unhide HB).below.drew)).mono ?_; rintro e w9 ⟨g7, g8, rfl, hg7, hg8, ho7, ho8, hb7⟩; have hb7' : Below w6.heap.size w6 w9 := (by first | exact hb7 | exact ⟨hb7.os, hb7.tape, hb7.output, hb7.size, hb7.block⟩); have z9 := hb7'.size; replace HB := hide ((unhide HB).step hb7'); replace HS := hide ((unhide HS).below hb7'); replace HG := hide ((unhide HG).below hb7'); have HE := hide (eqSea_any s.wd s.hg _ _ _ _ _ _ _ _ _ _ _ _ s.D s.F w9 (OwnV.intsIn ((unhide HB).at (g := g3) (vs := ints s.D) (by simp)) (Nat.le_refl _) (by unfold maxLen; omega)) (OwnV.recsIn ((unhide HB).at (g := g4) (vs := recCells 6 eClosed s.F) (by simp)) (Nat.le_refl _) (by unfold maxLen; omega)) (OwnV.intsIn (ho7) (Nat.le_refl _) (by unfold maxLen; omega)) (OwnV.recsIn (ho8) (Nat.le_refl _) (by unfold maxLen; omega))); unfold vSea at HE; have hq := (unhide HB).at (g := w.heap.size) (vs := [.int .i64 s.wd, .int .i64 s.hg, .slice dao dn dc, .slice fao fn fc]) (by simp); have ff0 := hq.cell (i := 0) rfl; have ff1 := hq.cell (i := 1) rfl; have ff2 := hq.cell (i := 2) rfl; have ff3 := hq.cell (i := 3) rfl; clear hq; have hq := (unhide HB).at (g := gx) (vs := [.int .i64 s.wd, .int .i64 s.hg, .slice (some ⟨g3, 0, none⟩) s.D.length s.D.length, .slice (some ⟨g4, 0, none⟩) s.F.length s.F.length]) (by simp); have gg0 := hq.cell (i := 0) rfl; have gg1 := hq.cell (i := 1) rfl; have gg2 := hq.cell (i := 2) rfl; have gg3 := hq.cell (i := 3) rfl; clear hq; clear ho7 ho8 hb7 hb7' hg7 hg8)
    | (go_at_call 21; refine (unhide HE).mono ?_; rintro e w10 ⟨rfl, hb8⟩; have z10 := hb8.size; replace HB := hide ((unhide HB).step hb8); replace HS := hide ((unhide HS).below hb8); replace HG := hide ((unhide HG).below hb8); have hq := (unhide HB).at (g := w.heap.size) (vs := [.int .i64 s.wd, .int .i64 s.hg, .slice dao dn dc, .slice fao fn fc]) (by simp); have k0 := hq.cell (i := 0) rfl; have k1 := hq.cell (i := 1) rfl; have k2 := hq.cell (i := 2) rfl; have k3 := hq.cell (i := 3) rfl; clear hq; have hq := (unhide HB).at (g := gx) (vs := [.int .i64 s.wd, .int .i64 s.hg, .slice (some ⟨g3, 0, none⟩) s.D.length s.D.length, .slice (some ⟨g4, 0, none⟩) s.F.length s.F.length]) (by simp); have m0 := hq.cell (i := 0) rfl; have m1 := hq.cell (i := 1) rfl; have m2 := hq.cell (i := 2) rfl; have m3 := hq.cell (i := 3) rfl; clear hq; clear hb8))
  clear HE a0 a1 a2 a3 b0 b1 b2 b3 ff0 ff1 ff2 ff3 gg0 gg1 gg2 gg3 k0 k1 k2 k3
  have HM := hide (markSea_any s.wd s.hg _ s.D.length _ s.F.length s.D s.F g3 g4 1 w10 (fun _ => ⟨rfl, (unhide HB).at (g := g3) (vs := ints s.D) (by simp)⟩) (fun _ => ⟨rfl, (unhide HB).at (g := g4) (vs := recCells 6 eClosed s.F) (by simp)⟩) (by omega) (by omega) hsD hsF (by omega) (by omega))
  unfold vSea at HM
  go_wp2_with fail
  refine (unhide HM).mono ?_
  rintro e w11 ⟨rfl, hk, -, -⟩
  clear HM m0 m1 m2 m3
  have z11 := hk.size
  replace HB := hide ((unhide HB).kept (L' := [(w.heap.size, [.int .i64 s.wd, .int .i64 s.hg, .slice dao dn dc, .slice fao fn fc])]) hk (fun b h => by omega) (by intro p hp; simp only [List.mem_singleton] at hp; subst hp; exact ⟨by simp, by simp only; omega⟩))
  replace HS := hide ((unhide HS).kept hk (fun b h1 h2 e => by omega))
  replace HG := hide ((unhide HG).kept hk (fun b h1 h2 e => by omega))
  clear hk
  generalize hkk : (1 : Int) + s.D.length + 6 * (s.F.length : Int) = kk
  have hk0 : 0 ≤ kk := by omega
  have hk1 : kk ≤ 1073741824 := by omega
  clear hkk
  go_wp2_with fail
  refine (eqIntS_o _ _ M _ (unhide HG).inn (unhide HS).inn).mono ?_
  rintro e w12 ⟨rfl, hb⟩
  replace HB := hide ((unhide HB).step hb); replace HS := hide ((unhide HS).below hb); replace HG := hide ((unhide HG).below hb)
  have zw12 := hb.size
  clear hb
  go_wp2_with fail
  refine (markInts_v _ _ _ _ _ M _ (unhide HG) hM).mono ?_
  rintro e w13 ⟨rfl, hk, ho⟩
  have z13 := hk.size
  replace HG := hide ho
  replace HB := hide ((unhide HB).kept (L' := [(w.heap.size, [.int .i64 s.wd, .int .i64 s.hg, .slice dao dn dc, .slice fao fn fc])]) hk (fun b h => by omega) (by intro p hp; simp only [List.mem_singleton] at hp; subst hp; exact ⟨by simp, by simp only; omega⟩))
  replace HS := hide ((unhide HS).kept hk (fun b h1 h2 e => by omega))
  clear hk ho
  have HH := hide fun W hW => heldInts_v (.slice ag ng cg) M W hW hM
  go_wp2_with fail
  refine (unhide HH _ (unhide HG).inn).mono ?_
  rintro e w14 ⟨rfl, hb⟩
  replace HB := hide ((unhide HB).step hb); replace HS := hide ((unhide HS).below hb); replace HG := hide ((unhide HG).below hb)
  clear hb
  have hq := (unhide HB).at (g := w.heap.size) (vs := [.int .i64 s.wd, .int .i64 s.hg, .slice dao dn dc, .slice fao fn fc]) (by simp)
  have a0 := hq.cell (i := 0) rfl
  have a1 := hq.cell (i := 1) rfl
  have a2 := hq.cell (i := 2) rfl
  have a3 := hq.cell (i := 3) rfl
  clear hq
  go_wp2_with fail
  refine (unhide HTO _ (unhide HB).below).mono ?_
  rintro e w15 ⟨g5, g6, rfl, hg5, hg6, ho1, ho2, hb⟩
  replace HB := hide ((unhide HB).step hb); replace HS := hide ((unhide HS).below hb); replace HG := hide ((unhide HG).below hb)
  have HIC := hide (unhide HI _ _ _ _ _ _ _ (OwnV.intsIn (ho1) (Nat.le_refl _) (by unfold maxLen; omega)) (OwnV.recsIn (ho2) (Nat.le_refl _) (by unfold maxLen; omega)))
  clear hb ho1 ho2 a0 a1 a2 a3 hg5 hg6
  go_wp2_with fail
  refine (unhide HIC).mono ?_
  rintro e w16 ⟨ah, nh, ch, rfl, ho, hb⟩
  replace HB := hide ((unhide HB).step hb); replace HS := hide ((unhide HS).below hb); replace HG := hide ((unhide HG).below hb)
  have HQ := hide ho.intsIn
  clear hb HIC ho
  go_wp2_with fail
  refine (eqIntS_o _ _ M _ (unhide HQ) (unhide HS).inn).mono ?_
  rintro e w17 ⟨rfl, hb⟩
  replace HB := hide ((unhide HB).step hb); replace HS := hide ((unhide HS).below hb); replace HG := hide ((unhide HG).below hb)
  have zw17 := hb.size
  clear hb
  go_wp2_with fail
  refine (unhide HH _ (unhide HG).inn).mono ?_
  rintro e w18 ⟨rfl, hb⟩
  replace HB := hide ((unhide HB).step hb); replace HS := hide ((unhide HS).below hb); replace HG := hide ((unhide HG).below hb)
  clear hb
  have HW := hide (unhide HB).below
  go_wp2
  go_ret
  all_goals exact ⟨rfl, unhide HW⟩

end Go.Proofs.Ytdpcacfgbjllhaa

/- How slices of flat structs of whole numbers and texts that came in are opened. Written by wip/mkopenm.py. -/
namespace Go.Proofs.Ytdpcacfgbjllhaa
open Go.ChangeShapes Go.WideShapes Go.ChangeAt Go.RowKit Go.Deep

theorem Try.ownM : ownKnob Try.prog.godebug = none := by kernel_rfl
theorem Try.laidOutM : laidOutB Try.prog = true := by kernel_rfl
theorem Try.cellIntM : Try.prog.cellsOf 3 = 1 := by kernel_rfl
theorem Try.cellStrM : Try.prog.cellsOf 9 = 1 := by kernel_rfl

theorem recClosed_open {H : Type} {enc : TypeId × Value → H} {W : World} {v : Value} {fuel : Nat} {x : DataW H × List MemPlace} {P : Program} {t e ti ts : TypeId} {f0 f1 f2 f3 f4 f5 : Field} (hi : P.underlying ti = some (.int .i64)) (_hs : P.underlying ts = some .string) (ci : P.cellsOf ti = 1) (_cst : P.cellsOf ts = 1)
    (ht : P.underlying t = some (.slice e)) (he : P.underlying e = some (.struct #[f0, f1, f2, f3, f4, f5])) (ce : P.cellsOf e = 6)
    (ho : [f0.offset, f1.offset, f2.offset, f3.offset, f4.offset, f5.offset] = [0, 1, 2, 3, 4, 5]) (hty : [f0.type, f1.type, f2.type, f3.type, f4.type, f5.type] = [ti, ti, ti, ti, ti, ti])
    (h : DataW.trod enc P W 0 (fun _ => true) true fuel t [v] = some x) : ∃ L, RClosed W v L ∧ ∀ i, i < L.length → True := by
  simp only [List.cons.injEq, and_true] at ho hty
  obtain ⟨o0, o1, o2, o3, o4, o5⟩ := ho
  obtain ⟨u0, u1, u2, u3, u4, u5⟩ := hty
  rcases open_slice ht h with ⟨hcs, _⟩ | ⟨a, len, cap, m, n, D, Pl, hcs, _, hl, hm, hmm, _, hx⟩
  · simp only [List.cons.injEq, and_true] at hcs
    subst hcs
    exact ⟨[], recsIn_nil, fun i hi => by simp at hi⟩
  simp only [List.cons.injEq, and_true] at hcs
  subst hcs
  simp only [if_true] at hmm
  subst hmm
  have each : ∀ i, i < len → ∃ q : ClosedT, (∀ j, j < 6 → W.cell? (a.add (i * 6 + j)) = some (eClosed q j)) ∧ True := by
    intro i hin
    obtain ⟨cs', h1, h2⟩ := hx i (by omega)
    rw [ce] at h1
    obtain ⟨_, hlen, hcell⟩ := World.cells?_some h1
    obtain ⟨xs, k, hk, hxy, _, hxl, hf⟩ := DataW.trod_struct he h2
    match xs, hxl, cs', hlen with
    | [y0, y1, y2, y3, y4, y5], _, [v0, v1, v2, v3, v4, v5], _ =>
      have g0 := hf 0 f0 rfl
      have g1 := hf 1 f1 rfl
      have g2 := hf 2 f2 rfl
      have g3 := hf 3 f3 rfl
      have g4 := hf 4 f4 rfl
      have g5 := hf 5 f5 rfl
      simp [o0, o1, o2, o3, o4, o5, u0, u1, u2, u3, u4, u5, ci] at g0 g1 g2 g3 g4 g5
      obtain ⟨z0, e0, _, _⟩ := DataW.trod_int hi g0
      obtain ⟨z1, e1, _, _⟩ := DataW.trod_int hi g1
      obtain ⟨z2, e2, _, _⟩ := DataW.trod_int hi g2
      obtain ⟨z3, e3, _, _⟩ := DataW.trod_int hi g3
      obtain ⟨z4, e4, _, _⟩ := DataW.trod_int hi g4
      obtain ⟨z5, e5, _, _⟩ := DataW.trod_int hi g5
      simp only [List.cons.injEq, and_true] at e0 e1 e2 e3 e4 e5
      have d0 := hcell 0 (by omega)
      rw [add_add] at d0
      subst e0
      have d1 := hcell 1 (by omega)
      rw [add_add] at d1
      subst e1
      have d2 := hcell 2 (by omega)
      rw [add_add] at d2
      subst e2
      have d3 := hcell 3 (by omega)
      rw [add_add] at d3
      subst e3
      have d4 := hcell 4 (by omega)
      rw [add_add] at d4
      subst e4
      have d5 := hcell 5 (by omega)
      rw [add_add] at d5
      subst e5
      refine ⟨(z0, z1, z2, z3, z4, z5), fun j hj => ?_, trivial⟩
      match j, hj with
      | 0, _ => simpa [eClosed] using d0
      | 1, _ => simpa [eClosed] using d1
      | 2, _ => simpa [eClosed] using d2
      | 3, _ => simpa [eClosed] using d3
      | 4, _ => simpa [eClosed] using d4
      | 5, _ => simpa [eClosed] using d5
  obtain ⟨q, hq⟩ := choose_lt each
  refine ⟨(List.range len).map q, ⟨some a, _, by simp, by simpa using hl, hm, fun i hi => ?_⟩, fun i _ => ?_⟩
  · simp only [List.length_map, List.length_range] at hi
    obtain ⟨b, o, sp⟩ := a
    have hs : sp = none := by simpa [Addr.add] using World.cell?_spot ((hq 0 (by omega)).1 0 (by omega))
    subst hs
    refine ⟨b, o, rfl, fun j hj => ?_⟩
    rw [← add_plain, (hq i hi).1 j hj]
    simp [List.getD, hi]
  · trivial

end Go.Proofs.Ytdpcacfgbjllhaa

/- How a sea that came in is opened: its numbers, its costs and what is closed. No statement about the program stands here. -/
namespace Go.Proofs.Ytdpcacfgbjllhaa
open Go.ChangeShapes Go.WideShapes Go.ChangeAt Go.RowKit Go.Deep

theorem intsS_open {H : Type} {enc : TypeId × Value → H} {W : World} {v : Value} {fuel : Nat} {x : DataW H × List MemPlace} {P : Program} {t ti : TypeId} (hi : P.underlying ti = some (.int .i64)) (ci : P.cellsOf ti = 1)
    (ht : P.underlying t = some (.slice ti)) (h : DataW.trod enc P W 0 (fun _ => true) true fuel t [v] = some x) : ∃ L, IntsIn W v L ∧ ∀ i, i < L.length → -9223372036854775808 ≤ L.getD i 0 ∧ L.getD i 0 ≤ 9223372036854775807 := by
  rcases open_ints ht hi ci h with ⟨hcs, _⟩ | ⟨a, len, cap, zs, hcs, _, hl, hm, hz, _, hcell, hwf⟩
  · simp only [List.cons.injEq, and_true] at hcs
    subst hcs
    exact ⟨[], ⟨none, 0, rfl, Nat.le_refl _, Nat.zero_le _, fun i hi => by simp at hi⟩, fun i hi => by simp at hi⟩
  · simp only [List.cons.injEq, and_true] at hcs
    subst hcs
    simp only [if_true] at hz
    have hl' : (zs.take len).length = len := by rw [List.length_take]; omega
    have hg : ∀ i, i < len → (zs.take len).getD i 0 = zs.getD i 0 := fun i hi => by simp [List.getD, hi]
    refine ⟨zs.take len, ⟨some a, cap, by rw [hl'], by rw [hl']; exact hl, hm, fun i hi => ?_⟩, fun i hi => ?_⟩
    · rw [hl'] at hi
      obtain ⟨b, o, sp⟩ := a
      have hs : sp = none := by simpa [Addr.add] using World.cell?_spot (hcell 0 (by omega))
      subst hs
      refine ⟨b, o, rfl, ?_⟩
      rw [← add_plain, hcell i (by omega), hg i hi]
    · rw [hl'] at hi
      rw [hg i hi]
      have hm' : zs.getD i 0 ∈ zs := by rw [getD_lt (show i < zs.length by omega)]; exact List.getElem_mem _
      have := hwf _ hm'
      clear hg hwf hcell hm'
      generalize zs.getD i 0 = y at *
      simp [Lit.wf, IntKind.min, IntKind.max, IntKind.bits, IntKind.signed] at this
      omega

/-- A struct of four fields, opened field by field. -/
theorem four_open {H : Type} {enc : TypeId × Value → H} {W : World} {base : Nat} {P : Program} {t : TypeId} {f0 f1 f2 f3 : Field} {v : Value} {d : DataW H} {p : List MemPlace} (hs : P.underlying t = some (.struct #[f0, f1, f2, f3]))
    (ho : [f0.offset, f1.offset, f2.offset, f3.offset] = [0, 1, 2, 3]) (hc : [P.cellsOf f0.type, P.cellsOf f1.type, P.cellsOf f2.type, P.cellsOf f3.type] = [1, 1, 1, 1]) (hC : P.cellsOf t = 4)
    (hv : Value.okWide P W .any base t v) (h : DataW.Trod enc P W 0 (fun _ => true) true t v d p) :
    ∃ (v0 v1 v2 v3 : Value) (y0 y1 y2 y3 : DataW H × List MemPlace) (n : Nat), v = .agg #[v0, v1, v2, v3] ∧
      DataW.trod enc P W 0 (fun _ => true) true n f0.type [v0] = some y0 ∧ DataW.trod enc P W 0 (fun _ => true) true n f1.type [v1] = some y1 ∧ DataW.trod enc P W 0 (fun _ => true) true n f2.type [v2] = some y2 ∧
      DataW.trod enc P W 0 (fun _ => true) true n f3.type [v3] = some y3 := by
  simp only [List.cons.injEq, and_true] at ho hc
  obtain ⟨o0, o1, o2, o3⟩ := ho
  obtain ⟨c0, c1, c2, c3⟩ := hc
  obtain ⟨⟨l⟩, rfl, hsz⟩ := okWide_struct hs hv
  rw [hC] at hsz
  obtain ⟨fuel, hf⟩ := h
  obtain ⟨xs, n, _, _, _, hlen, hx⟩ := DataW.trod_struct hs hf
  match l, hsz, xs, hlen with
  | [v0, v1, v2, v3], _, [y0, y1, y2, y3], _ =>
    have g0 := hx 0 f0 rfl
    have g1 := hx 1 f1 rfl
    have g2 := hx 2 f2 rfl
    have g3 := hx 3 f3 rfl
    simp [Value.cells, o0, o1, o2, o3, c0, c1, c2, c3] at g0 g1 g2 g3
    exact ⟨v0, v1, v2, v3, y0, y1, y2, y3, n, rfl, g0, g1, g2, g3⟩

set_option maxRecDepth 100000 in
theorem open_sea {H : Type} {enc : TypeId × Value → H} {W : World} {base : Nat} {v0 : Value} {d0 : DataW H} {p0 : List MemPlace} (hv : Value.okWide Try.prog W .any base 42 v0)
    (h0 : DataW.Trod enc Try.prog W 0 (fun _ => true) true 42 v0 d0 p0) :
    ∃ (s : Se) (dao : Option Addr) (dn dc : Nat) (fao : Option Addr) (fn fc : Nat), v0 = vSea s.wd s.hg (.slice dao dn dc) (.slice fao fn fc) ∧ IntsIn W (.slice dao dn dc) s.D ∧ RClosed W (.slice fao fn fc) s.F := by
  obtain ⟨c0, c1, c2, c3, y0, y1, y2, y3, n, rfl, t0, t1, t2, t3⟩ := four_open Try.underlying42 (by kernel_rfl) (by kernel_rfl) (by kernel_rfl) hv h0
  obtain ⟨wd, e0, _, _⟩ := DataW.trod_int Try.underlying3 t0
  obtain ⟨hg, e1, _, _⟩ := DataW.trod_int Try.underlying3 t1
  obtain ⟨D, hD, -⟩ := intsS_open Try.underlying3 Try.cellIntM Try.underlying24 t2
  obtain ⟨F, hF, -⟩ := recClosed_open Try.underlying3 Try.underlying9 Try.cellIntM Try.cellStrM Try.underlying40 Try.underlying99 (by kernel_rfl) rfl rfl t3
  simp only [List.cons.injEq, and_true] at e0 e1
  subst e0 e1
  obtain ⟨dao, dc, eD, _⟩ := id hD
  obtain ⟨fao, fc, eF, _⟩ := id hF
  subst eD eF
  exact ⟨⟨wd, hg, D, F⟩, dao, D.length, dc, fao, F.length, fc, rfl, hD, hF⟩

set_option maxRecDepth 100000 in
theorem open_intsS {H : Type} {enc : TypeId × Value → H} {W : World} {base : Nat} {v0 : Value} {d0 : DataW H} {p0 : List MemPlace} (hv : Value.okWide Try.prog W .any base 24 v0)
    (h0 : DataW.Trod enc Try.prog W 0 (fun _ => true) true 24 v0 d0 p0) :
    ∃ (M : List Int) (mao : Option Addr) (mc : Nat), v0 = .slice mao M.length mc ∧ IntsIn W (.slice mao M.length mc) M ∧ ∀ i, i < M.length → -9223372036854775808 ≤ M.getD i 0 ∧ M.getD i 0 ≤ 9223372036854775807 := by
  obtain ⟨a, len, cap, rfl⟩ := okWide_slice Try.underlying24 hv
  obtain ⟨fuel, hf⟩ := h0
  obtain ⟨M, hM, hb⟩ := intsS_open Try.underlying3 Try.cellIntM Try.underlying24 hf
  obtain ⟨mao, mc, e, _⟩ := id hM
  rw [e] at hM ⊢
  exact ⟨M, mao, mc, rfl, hM, hb⟩

end Go.Proofs.Ytdpcacfgbjllhaa
