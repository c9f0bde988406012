/- Laid together out of: CpK, CpInt, CpFeature, BlkA, ChJ, ImC, NrM, MpM. -/
import Derived.Test.YtmpicamenjnkkaaPa
import Derived.Laws.CopyRow
import Derived.Test.YtmpicamenjnkkaaPb
import Derived.Test.YtmpicamenjnkkaaPc
import Derived.Test.YtmpicamenjnkkaaPj
import Derived.Test.YtmpicamenjnkkaaPe
import Derived.Test.YtmpicamenjnkkaaPd
import Derived.Deep.RegionLaw
import Derived.Deep.AppendLies
import Derived.Deep.DeepCutAuto

/- How a whole row of records is copied into a row of the call's own. No statement about the program stands here. -/
namespace Go.Proofs.Ytmpicamenjnkkaa
open Go.RowKit

theorem run_copy_k {P : Program} (w : World) (dT sT ty elem : TypeId) (k : Nat) (g n dCap : Nat) (a : Addr) (sCap : Nat) (cur : Array Value) (t : TypeId) (cs : List Value)
    (hu : P.underlying dT = some (.slice elem)) (hs : (P.info? elem).map (·.size) = some k)
    (hg : w.heap[g]? = some (.cells cur t (0, 0))) (hn : cs.length = n * k)
    (hsrc : ∀ j v, cs[j]? = some v → w.cell? (a.add j) = some v) (hfit : cs.length ≤ cur.size) (h1 : ∀ v ∈ cs, v.oneCell' = true) :
    (Builtin.copy_ #[dT, sT] ty #[.slice (some ⟨g, 0, none⟩) n dCap, .slice (some a) n sCap]).run P w =
      .ok (goInt n) (w.setRow g (cs ++ cur.toList.drop cs.length).toArray) := by
  have hl := run_loadCells_list (P := P) w a cs hsrc
  have hst := run_storeCells_at P g 0 t cs 0 cur w hg (by simpa using hfit) h1
  simp only [Nat.zero_add, List.take_zero, List.nil_append] at hst
  cases hq : P.info? elem with
  | none => simp [hq] at hs
  | some i =>
    have hi : i.size = k := by simpa [hq] using hs
    have hmin : Nat.min n n = n := Nat.min_self n
    simp [Builtin.copy_, run_underlying hu, Builtin.lenOf, Builtin.firstCells, sizeOf, typeInfo, hq, hi, ← hn, hl, hst]

theorem run_copy_k0 {P : Program} (w : World) (dT sT ty elem : TypeId) (k : Nat) (d a : Option Addr) (dCap sCap : Nat) (hu : P.underlying dT = some (.slice elem)) (hs : (P.info? elem).map (·.size) = some k) :
    (Builtin.copy_ #[dT, sT] ty #[.slice d 0 dCap, .slice a 0 sCap]).run P w = .ok (goInt 0) w := by
  cases hq : P.info? elem with
  | none => simp [hq] at hs
  | some i =>
    have hl : ∀ (x : Addr), (loadCells x 0).run P w = .ok #[] w := fun x => by simpa using run_loadCells_list (P := P) w x [] (by simp)
    cases d <;> cases a <;> simp [Builtin.copy_, run_underlying hu, Builtin.lenOf, Builtin.firstCells, sizeOf, typeInfo, hq, storeCells, hl]

theorem below_setRow' {B g : Nat} {w0 w : World} (hb : Below B w0 w) (hBg : B ≤ g) (cs : Array Value) : Below B w0 (w.setRow g cs) :=
  hb.trans ⟨rfl, rfl, rfl, by simp [World.setRow], fun k hk => setRow_other w g k cs (by omega)⟩

theorem ownV_fits {w : World} {g : Nat} {zs : List Value} (h : OwnV w g zs) : ∃ c t, w.heap[g]? = some (.cells c t (0, 0)) ∧ zs.length ≤ c.size := by
  obtain ⟨c, t, h1, h2⟩ := h
  refine ⟨c, t, h1, ?_⟩
  rcases Nat.eq_zero_or_pos zs.length with e | e
  · omega
  · have := h2 (zs.length - 1) (by omega)
    rw [List.getElem?_eq_getElem (by omega)] at this
    have := (Array.getElem?_eq_some_iff.1 this).1
    omega

theorem run_copy_all {P : Program} {w : World} (dT sT elem : TypeId) (k : Nat) (hu : P.underlying dT = some (.slice elem)) (hsz : (P.info? elem).map (·.size) = some k)
    (g n dCap : Nat) (sp : Option Addr) (sCap : Nat)
    (zs cs : List Value) (hO : OwnV w g zs) (hz : zs.length = cs.length) (hn : cs.length = n * k)
    (hsrc : 0 < n → ∃ ad, sp = some ad ∧ ∀ j v, cs[j]? = some v → w.cell? (ad.add j) = some v) (h1 : ∀ v ∈ cs, v.oneCell' = true)
    (B : Nat) (w0 : World) (hb : Below B w0 w) (hBg : B ≤ g) :
    ∃ w', (∀ ty, (Builtin.copy_ #[dT, sT] ty #[.slice (some ⟨g, 0, none⟩) n dCap, .slice sp n sCap]).run P w = .ok (goInt n) w') ∧ OwnV w' g cs ∧ Below B w0 w' := by
  rcases Nat.eq_zero_or_pos n with h0 | hpos
  · subst h0
    have hc0 : cs = [] := List.eq_nil_of_length_eq_zero (by rw [hn, Nat.zero_mul])
    subst hc0
    obtain ⟨c, t, hg, _⟩ := hO
    exact ⟨w, fun ty => run_copy_k0 (P := P) w dT sT ty elem k (some ⟨g, 0, none⟩) sp dCap sCap hu hsz, ⟨c, t, hg, fun i hi => by simp at hi⟩, hb⟩
  · obtain ⟨c, t, hg, hc⟩ := ownV_fits hO
    obtain ⟨ad, rfl, hsr⟩ := hsrc hpos
    refine ⟨_, fun ty => run_copy_k (P := P) w dT sT ty elem k g n dCap ad sCap c t cs hu hsz hg hn hsr (by omega) h1, ⟨_, t, setRow_heap w g _ _ t _ hg, fun i hi => ?_⟩, below_setRow' hb hBg _⟩
    simp [List.getElem?_append_left hi]

/-- The cells of a list of records that came in. -/
theorem recs_src {α : Type} [Inhabited α] {n : Nat} {enc : α → Nat → Value} {w : World} {ao : Option Addr} {m cap : Nat} {L : List α} (h : RecsIn n enc w (.slice ao m cap) L) :
    0 < m → ∃ ad, ao = some ad ∧ ∀ j v, (recCells n enc L)[j]? = some v → w.cell? (ad.add j) = some v := by
  obtain ⟨ao', cap', e, hl, hm, hc⟩ := h
  simp only [Value.slice.injEq] at e
  obtain ⟨rfl, rfl, rfl⟩ := e
  intro hpos
  obtain ⟨b, o, e, hx⟩ := hc 0 hpos
  subst e
  refine ⟨_, rfl, fun j v hj => ?_⟩
  have hjl : j < L.length * n := by
    rcases Nat.lt_or_ge j (L.length * n) with h | h
    · exact h
    · rw [List.getElem?_eq_none (by rw [recCells_length]; exact h)] at hj; cases hj
  have hn0 : 0 < n := by
    rcases Nat.eq_zero_or_pos n with e | e
    · subst e; simp at hjl
    · exact e
  have hi : j / n < L.length := Nat.div_lt_of_lt_mul (by rw [Nat.mul_comm]; exact hjl)
  obtain ⟨b', o', e', hx'⟩ := hc (j / n) hi
  simp only [Option.some.injEq, Addr.mk.injEq, and_true] at e'
  obtain ⟨rfl, rfl⟩ := e'
  have hg := hx' (j % n) (Nat.mod_lt _ hn0)
  have hj2 := recCells_get (n := n) (enc := enc) hi (Nat.mod_lt j hn0)
  have hdm : j / n * n + j % n = j := by rw [Nat.mul_comm]; exact Nat.div_add_mod j n
  rw [hdm] at hg hj2
  rw [hj2] at hj
  have hadd : (⟨b, o, none⟩ : Addr).add j = ⟨b, o + j, none⟩ := by unfold Addr.add; split <;> simp_all
  rw [hadd, hg, hj]

theorem ints_src {w : World} {ao : Option Addr} {m cap : Nat} {xs : List Int} (h : IntsIn w (.slice ao m cap) xs) :
    0 < m → ∃ ad, ao = some ad ∧ ∀ j v, (ints xs)[j]? = some v → w.cell? (ad.add j) = some v := by
  obtain ⟨ao', cap', e, hl, hm, hc⟩ := h
  simp only [Value.slice.injEq] at e
  obtain ⟨rfl, rfl, rfl⟩ := e
  intro hpos
  obtain ⟨b, o, e, hx⟩ := hc 0 hpos
  subst e
  refine ⟨_, rfl, fun j v hj => ?_⟩
  have hjl : j < xs.length := by
    rcases Nat.lt_or_ge j xs.length with h | h
    · exact h
    · rw [List.getElem?_eq_none (by rw [ints_length]; exact h)] at hj; cases hj
  obtain ⟨b', o', e', hx'⟩ := hc j hjl
  simp only [Option.some.injEq, Addr.mk.injEq, and_true] at e'
  obtain ⟨rfl, rfl⟩ := e'
  have hadd : (⟨b, o, none⟩ : Addr).add j = ⟨b, o + j, none⟩ := by unfold Addr.add; split <;> simp_all
  rw [hadd, hx', ← hj, ints_get xs hjl]

end Go.Proofs.Ytmpicamenjnkkaa

/- The contract of the program's ownCopy of Int. -/
namespace Go.Proofs.Ytmpicamenjnkkaa
open Go.RowKit

set_option maxRecDepth 10000 in
theorem Try.infoIntCp : (Try.prog.info? 3).map (fun i => (i.zero, i.size, i.bytes)) = some (some (Value.int .i64 0), 1, 8) := by kernel_rfl

set_option maxHeartbeats 1600000 in
theorem ownCopyInt_any (ar : Option Addr) (m cr : Nat) (xs : List Int) (w : World) (h : IntsIn w (.slice ar m cr) xs) (hm : m ≤ 1048576) :
    Calls Try.prog 81 #[.slice ar m cr] w fun e w' => e = .returned (.slice (some ⟨w.heap.size, 0, none⟩) m m) ∧ OwnV w' w.heap.size (ints xs) ∧ Below w.heap.size w w' := by
  have hlen : xs.length = m := by
    obtain ⟨ao', cap', e, _⟩ := h
    simp only [Value.slice.injEq] at e
    exact e.2.1.symm
  have hmk := run_make_row' (P := Try.prog) 24 3 (.int .i64 0) 8 Try.underlying24 Try.infoIntCp rfl .i64 .i64 m (by omega) (by omega)
  obtain ⟨Z, eZ⟩ : ∃ Z, Z = #[Value.int .i64 0] := ⟨_, rfl⟩
  rw [← eZ] at hmk
  have hsz : (Try.prog.info? 3).map (·.size) = some 1 := by
    obtain ⟨i0, hi, -, hz1, -⟩ := info_parts Try.infoIntCp
    rw [hi, Option.map_some, hz1]
  have HSRC := hide (ints_src h)
  have HCS : Hid (((ints xs)).length = m) := by show _ = _; rw [ints_length, hlen]
  have H1 : Hid (∀ v ∈ (ints xs), v.oneCell' = true) := fun v hv => by
    obtain ⟨x, _, rfl⟩ := List.mem_map.1 hv; rfl
  have A := Below.alloc1 w (.cells (madeCells Z m) 3)
  have HW := hide A
  have O := ownV_alloc w (madeCells Z m) 3
  have HO := hide O
  have hzl : (madeCells Z m).toList.length = m := by simp [madeCells]
  have HZL := hide hzl
  have HSRC2 : Hid (0 < m → ∃ ad, ar = some ad ∧ ∀ j v, ((ints xs))[j]? = some v → (w.alloc (.cells (madeCells Z m) 3)).cell? (ad.add j) = some v) := fun hp => by
    obtain ⟨ad, e, hx⟩ := unhide HSRC hp
    exact ⟨ad, e, fun j v hj => ((A.cell (lt_of_cell (hx j v hj))).trans (hx j v hj))⟩
  obtain ⟨w1, hrun, hO1, hb1⟩ := run_copy_all 24 24 3 1 Try.underlying24 hsz w.heap.size m m ar cr _ _ (unhide HO) (by rw [unhide HZL, unhide HCS]) (by rw [Nat.mul_one]; exact unhide HCS) (unhide HSRC2) (unhide H1) w.heap.size w (unhide HW) (Nat.le_refl _)
  have HO1 := hide hO1
  have HW1 := hide hb1
  clear h eZ A O hzl HSRC hsz HO HW HSRC2 H1 HCS HZL hO1 hb1 hlen
  go_enter Try.func81, Try.ntmps81
  go_wp2
  go_ret
  exact ⟨rfl, unhide HO1, unhide HW1⟩

end Go.Proofs.Ytmpicamenjnkkaa

/- The contract of the program's ownCopy of Feature. -/
namespace Go.Proofs.Ytmpicamenjnkkaa
open Go.RowKit

set_option maxRecDepth 10000 in
set_option maxHeartbeats 1600000 in
theorem ownCopyFeature_any (ar : Option Addr) (m cr : Nat) (L : List FeatureT) (w : World) (h : RFeature w (.slice ar m cr) L) (hm : m ≤ 1048576) :
    Calls Try.prog 61 #[.slice ar m cr] w fun e w' => e = .returned (.slice (some ⟨w.heap.size, 0, none⟩) m m) ∧ OwnV w' w.heap.size (recCells 5 eFeature L) ∧ Below w.heap.size w w' := by
  have hlen : L.length = m := by
    obtain ⟨ao', cap', e, _⟩ := h
    simp only [Value.slice.injEq] at e
    exact e.2.1.symm
  have hmk := run_make_recs (P := Try.prog) 25 91 _ 5 48 Try.underlying25 Try.infoFeature .i64 .i64 m (by omega) (by omega)
  obtain ⟨Z, eZ⟩ : ∃ Z, Z = (vFeature 0 0 0 0 ⟨#[]⟩).cells := ⟨_, rfl⟩
  rw [← eZ] at hmk
  have hsz : (Try.prog.info? 91).map (·.size) = some 5 := by
    obtain ⟨i0, hi, -, hz1, -⟩ := info_parts Try.infoFeature
    rw [hi, Option.map_some, hz1]
  have HSRC := hide (recs_src h)
  have HCS : Hid (((recCells 5 eFeature L)).length = (m * 5)) := by show _ = _; rw [recCells_length, hlen]
  have H1 : Hid (∀ v ∈ (recCells 5 eFeature L), v.oneCell' = true) := fun v hv => by
    obtain ⟨q, _, rfl⟩ := List.mem_map.1 hv; have : q % 5 = 0 ∨ q % 5 = 1 ∨ q % 5 = 2 ∨ q % 5 = 3 ∨ q % 5 = 4 := by omega
    rcases this with e | e | e | e | e <;> rw [e] <;> rfl
  have A := Below.alloc1 w (.cells (madeCells Z (m * 5)) 91)
  have HW := hide A
  have O := ownV_alloc w (madeCells Z (m * 5)) 91
  have HO := hide O
  have hzl : (madeCells Z (m * 5)).toList.length = (m * 5) := by simp [madeCells]
  have HZL := hide hzl
  have HSRC2 : Hid (0 < m → ∃ ad, ar = some ad ∧ ∀ j v, ((recCells 5 eFeature L))[j]? = some v → (w.alloc (.cells (madeCells Z (m * 5)) 91)).cell? (ad.add j) = some v) := fun hp => by
    obtain ⟨ad, e, hx⟩ := unhide HSRC hp
    exact ⟨ad, e, fun j v hj => ((A.cell (lt_of_cell (hx j v hj))).trans (hx j v hj))⟩
  obtain ⟨w1, hrun, hO1, hb1⟩ := run_copy_all 25 25 91 5 Try.underlying25 hsz w.heap.size m m ar cr _ _ (unhide HO) (by rw [unhide HZL, unhide HCS]) (unhide HCS) (unhide HSRC2) (unhide H1) w.heap.size w (unhide HW) (Nat.le_refl _)
  have HO1 := hide hO1
  have HW1 := hide hb1
  clear h eZ A O hzl HSRC hsz HO HW HSRC2 H1 HCS HZL hO1 hb1 hlen
  go_enter Try.func61, Try.ntmps61
  go_wp2
  go_ret
  exact ⟨rfl, unhide HO1, unhide HW1⟩

end Go.Proofs.Ytmpicamenjnkkaa

/- Blocks of the call's own, of any cells: boxes and rows beside one another. No statement about the program stands here. -/
namespace Go.Proofs.Ytmpicamenjnkkaa
open Go.RowKit

/-- The blocks L (number and first cells) of the call's own. -/
structure Blks (w W : World) (L : List (Nat × List Value)) : Prop where
  all : ∀ p ∈ L, OwnV W p.1 p.2
  below : Below w.heap.size w W
  own : ∀ p ∈ L, w.heap.size ≤ p.1
theorem Blks.step {w W W' : World} {L : List (Nat × List Value)} (h : Blks w W L) (hb : Below W.heap.size W W') : Blks w W' L := ⟨fun p hp => (h.all p hp).step hb, Below.step h.below hb, h.own⟩
theorem Blks.lt {w W : World} {L : List (Nat × List Value)} (h : Blks w W L) : ∀ p ∈ L, p.1 < W.heap.size := fun p hp => (h.all p hp).lt
theorem Blks.push {w W : World} {L : List (Nat × List Value)} (h : Blks w W L) {g : Nat} {vs : List Value} (ho : OwnV W g vs) (hg : w.heap.size ≤ g) : Blks w W ((g, vs) :: L) :=
  ⟨fun p hp => by rcases List.mem_cons.1 hp with rfl | hp; exact ho; exact h.all p hp, h.below, fun p hp => by rcases List.mem_cons.1 hp with rfl | hp; exact hg; exact h.own p hp⟩
theorem Blks.made {w W : World} {L : List (Nat × List Value)} (h : Blks w W L) (cs : Array Value) (t : TypeId) : Blks w (W.alloc (.cells cs t)) ((W.heap.size, cs.toList) :: L) :=
  (h.step (Below.alloc1 _ _)).push (ownV_alloc _ _ _) h.below.size
theorem Blks.at {w W : World} {L : List (Nat × List Value)} (h : Blks w W L) {g : Nat} {vs : List Value} (hp : (g, vs) ∈ L) : OwnV W g vs := h.all _ hp
theorem Blks.less {w W : World} {L L' : List (Nat × List Value)} (h : Blks w W L) (hs : ∀ p ∈ L', p ∈ L) : Blks w W L' := ⟨fun p hp => h.all p (hs p hp), h.below, fun p hp => h.own p (hs p hp)⟩
theorem Blks.apart {w W : World} {L : List (Nat × List Value)} (h : Blks w W L) {g : Nat} {vs : List Value} (hp : (g, vs) ∈ L) : ¬ W.heap.size = g ∧ ¬ g = W.heap.size := by
  have : g < W.heap.size := h.lt _ hp
  omega
theorem Blks.drew {w W : World} {L : List (Nat × List Value)} (h : Blks w W L) : Blks w W.drew L := ⟨fun p hp => (h.all p hp).drew, h.below.drew, h.own⟩
theorem Blks.kept {T : Nat → Prop} {w W W' : World} {L L' : List (Nat × List Value)} (h : Blks w W L) (hk : Kept T W W') (hT : ∀ b, T b → w.heap.size ≤ b) (hs : ∀ p ∈ L', p ∈ L ∧ ¬ T p.1) : Blks w W' L' :=
  ⟨fun p hp => (h.all p (hs p hp).1).kept hk (hs p hp).2, h.below.trans (hk.below h.below.size hT), fun p hp => h.own p (hs p hp).1⟩
theorem blks_nil (w : World) : Blks w w [] := ⟨fun p hp => by simp at hp, Below.refl _ _, fun p hp => by simp at hp⟩

end Go.Proofs.Ytmpicamenjnkkaa

/- Blocks of the call's own, beside charts. No statement about the program stands here. -/

/- Contracts of the program's ownChart and readiness. -/
namespace Go.Proofs.Ytmpicamenjnkkaa
open Go.RowKit

theorem ints_len_eq {w : World} {ao : Option Addr} {n cp : Nat} {xs : List Int} (h : IntsIn w (.slice ao n cp) xs) : n = xs.length := by
  obtain ⟨_, _, e, _⟩ := h
  simp only [Value.slice.injEq] at e
  exact e.2.1
theorem recs_len_eq {α : Type} [Inhabited α] {k : Nat} {enc : α → Nat → Value} {w : World} {ao : Option Addr} {n cp : Nat} {L : List α} (h : RecsIn k enc w (.slice ao n cp) L) : n = L.length := by
  obtain ⟨_, _, e, _⟩ := h
  simp only [Value.slice.injEq] at e
  exact e.2.1

set_option maxRecDepth 10000 in
set_option maxHeartbeats 4000000 in
theorem ownChart_any (c : Ch) (dao : Option Addr) (dn dc : Nat) (fao : Option Addr) (fn fc : Nat) (w : World) (hD : IntsIn w (.slice dao dn dc) c.D) (hF : RFeature w (.slice fao fn fc) c.F) (hsD : c.D.length ≤ 1048576) (hsF : c.F.length ≤ 1048576) :
    Calls Try.prog 42 #[vChart c.wd c.hg (.slice dao dn dc) (.slice fao fn fc) c.ed] w fun e w' => ∃ g1 g2, e = .returned (vChart c.wd c.hg (.slice (some ⟨g1, 0, none⟩) c.D.length c.D.length) (.slice (some ⟨g2, 0, none⟩) c.F.length c.F.length) c.ed) ∧ w.heap.size ≤ g1 ∧ g1 < g2 ∧ OwnV w' g1 (ints c.D) ∧ OwnV w' g2 (recCells 5 eFeature c.F) ∧ Below w.heap.size w w' := by
  obtain rfl := ints_len_eq hD
  obtain rfl := recs_len_eq hF
  have A := Below.step (Below.alloc1 w (.cells #[.int .i64 c.wd, .int .i64 c.hg, .slice dao c.D.length dc, .slice fao c.F.length fc, .int .i64 c.ed] 27)) (Below.alloc1 _ (.cells #[.int .i64 0, .int .i64 0, .slice none 0 0, .slice none 0 0, .int .i64 0] 27))
  have HO := hide ((ownV_alloc w #[.int .i64 c.wd, .int .i64 c.hg, .slice dao c.D.length dc, .slice fao c.F.length fc, .int .i64 c.ed] 27).alloc (.cells #[.int .i64 0, .int .i64 0, .slice none 0 0, .slice none 0 0, .int .i64 0] 27))
  have R := ownV_alloc (w.alloc (.cells #[.int .i64 c.wd, .int .i64 c.hg, .slice dao c.D.length dc, .slice fao c.F.length fc, .int .i64 c.ed] 27)) #[.int .i64 0, .int .i64 0, .slice none 0 0, .slice none 0 0, .int .i64 0] 27
  simp only [World.size_alloc] at R
  have HR := hide R
  have HC1 := hide (ownCopyInt_any dao c.D.length dc c.D _ (hD.below A) hsD)
  have HF := hide hF
  have HW := hide A
  clear hD hF A R
  unfold vChart
  go_enter Try.func42, Try.ntmps42
  go_wp2_with fail
  refine (unhide HC1).mono ?_
  rintro e w1 ⟨rfl, hO1, hb⟩
  obtain ⟨W0, e0⟩ : ∃ z, z = (w.alloc (.cells #[.int .i64 c.wd, .int .i64 c.hg, .slice dao c.D.length dc, .slice fao c.F.length fc, .int .i64 c.ed] 27)).alloc (.cells #[.int .i64 0, .int .i64 0, .slice none 0 0, .slice none 0 0, .int .i64 0] 27) := ⟨_, rfl⟩
  rw [← e0] at HO HW HR hb hO1 ⊢
  clear e0 HC1
  have hlt0 := (unhide HR).lt
  replace HO := hide ((unhide HO).step hb)
  replace HR := hide ((unhide HR).step hb)
  replace HW := hide (Below.step (unhide HW) hb)
  have hlt1 := hO1.lt
  clear hb
  generalize W0.heap.size = g1 at *
  have HO1 := hide hO1
  clear hO1
  have b3 := (unhide HO).cell (i := 3) rfl
  have b2 := (unhide HO).cell (i := 2) rfl
  have bf := (unhide HO).frozen
  have hn1 : ¬ g1 = w.heap.size := by omega
  have hn2 : ¬ w.heap.size = g1 := by omega
  have hn5 : w.heap.size + 1 ≠ w.heap.size := by omega
  have hn6 : w.heap.size ≠ w.heap.size + 1 := by omega
  have hn7 : g1 ≠ w.heap.size + 1 := by omega
  have HO' := hide ((unhide HO).set 2 (.slice (some ⟨g1, 0, none⟩) c.D.length c.D.length) (by simp))
  have HW' := hide ((unhide HW).setCell (p := ⟨w.heap.size, 2, none⟩) (Nat.le_refl _) (.slice (some ⟨g1, 0, none⟩) c.D.length c.D.length))
  have HR' := hide (farN (unhide HR) hn5 2 (.slice (some ⟨g1, 0, none⟩) c.D.length c.D.length))
  have HO1' := hide (farN (unhide HO1) hn1 2 (.slice (some ⟨g1, 0, none⟩) c.D.length c.D.length))
  have HC2 := hide (ownCopyFeature_any fao c.F.length fc c.F _ ((unhide HF).below (unhide HW')) hsF)
  go_wp2_with fail
  refine (unhide HC2).mono ?_
  rintro e w2 ⟨rfl, hO2, hb⟩
  obtain ⟨W1, e1⟩ : ∃ z, z = w1.setCell ⟨w.heap.size, 2, none⟩ (.slice (some ⟨g1, 0, none⟩) c.D.length c.D.length) := ⟨_, rfl⟩
  rw [← e1] at HO' HW' HO1' HR' hb hO2 ⊢
  have hs1 : W1.heap.size = w1.heap.size := by rw [e1]; simp [World.setCell]
  clear e1 HC2 b3 b2 bf HO HW HO1 HF HR
  replace HR' := hide ((unhide HR').step hb)
  replace HO' := hide ((unhide HO').step hb)
  replace HW' := hide (Below.step (unhide HW') hb)
  replace HO1' := hide ((unhide HO1').step hb)
  have hg12 : g1 < W1.heap.size := by omega
  clear hb hs1
  generalize W1.heap.size = g2 at *
  have b3 := (unhide HO').cell (i := 3) rfl
  have bf := (unhide HO').frozen
  have hn3 : g2 ≠ w.heap.size := by omega
  have hn8 : g2 ≠ w.heap.size + 1 := by omega
  go_upto_region 3 with (fail)
  clear b3 bf
  have hX := (unhide HO').set 3 (.slice (some ⟨g2, 0, none⟩) c.F.length c.F.length) (by simp)
  have hL := (unhide HW').setCell (p := ⟨w.heap.size, 3, none⟩) (Nat.le_refl _) (.slice (some ⟨g2, 0, none⟩) c.F.length c.F.length)
  have hY := farN (unhide HR') hn5 3 (.slice (some ⟨g2, 0, none⟩) c.F.length c.F.length)
  have hDp := farN (unhide HO1') hn1 3 (.slice (some ⟨g2, 0, none⟩) c.F.length c.F.length)
  have hFp := farN hO2 hn3 3 (.slice (some ⟨g2, 0, none⟩) c.F.length c.F.length)
  obtain ⟨W6, eW6⟩ : ∃ z, z = w2.setCell ⟨w.heap.size, 3, none⟩ (.slice (some ⟨g2, 0, none⟩) c.F.length c.F.length) := ⟨_, rfl⟩
  rw [← eW6] at hX hY hDp hFp hL ⊢
  have p0 := hX.cell (i := 0) rfl
  have p1 := hX.cell (i := 1) rfl
  have p2 := hX.cell (i := 2) rfl
  have p3 := hX.cell (i := 3) rfl
  have p4 := hX.cell (i := 4) rfl
  have d0 := hY.cell (i := 0) rfl
  have d1 := hY.cell (i := 1) rfl
  have d2 := hY.cell (i := 2) rfl
  have d3 := hY.cell (i := 3) rfl
  have d4 := hY.cell (i := 4) rfl
  have df := hY.frozen
  have HR8 := hide (((((hY.set 0 (.int .i64 c.wd) (by simp)).set 1 (.int .i64 c.hg) (by simp)).set 2 (.slice (some ⟨g1, 0, none⟩) c.D.length c.D.length) (by simp)).set 3 (.slice (some ⟨g2, 0, none⟩) c.F.length c.F.length) (by simp)).set 4 (.int .i64 c.ed) (by simp))
  have HO18 := hide (farN (farN (farN (farN (farN hDp hn7 0 (.int .i64 c.wd)) hn7 1 (.int .i64 c.hg)) hn7 2 (.slice (some ⟨g1, 0, none⟩) c.D.length c.D.length)) hn7 3 (.slice (some ⟨g2, 0, none⟩) c.F.length c.F.length)) hn7 4 (.int .i64 c.ed))
  have HO28 := hide (farN (farN (farN (farN (farN hFp hn8 0 (.int .i64 c.wd)) hn8 1 (.int .i64 c.hg)) hn8 2 (.slice (some ⟨g1, 0, none⟩) c.D.length c.D.length)) hn8 3 (.slice (some ⟨g2, 0, none⟩) c.F.length c.F.length)) hn8 4 (.int .i64 c.ed))
  have HW8 := hide (((((hL.setCell (p := ⟨w.heap.size + 1, 0, none⟩) (Nat.le_succ _) (.int .i64 c.wd)).setCell (p := ⟨w.heap.size + 1, 1, none⟩) (Nat.le_succ _) (.int .i64 c.hg)).setCell (p := ⟨w.heap.size + 1, 2, none⟩) (Nat.le_succ _) (.slice (some ⟨g1, 0, none⟩) c.D.length c.D.length)).setCell (p := ⟨w.heap.size + 1, 3, none⟩) (Nat.le_succ _) (.slice (some ⟨g2, 0, none⟩) c.F.length c.F.length)).setCell (p := ⟨w.heap.size + 1, 4, none⟩) (Nat.le_succ _) (.int .i64 c.ed))
  clear hO2 hX hY hDp hFp hL eW6 HO' HR' HW' HO1'
  go_wp2
  have q0 := (unhide HR8).cell (i := 0) rfl
  have q1 := (unhide HR8).cell (i := 1) rfl
  have q2 := (unhide HR8).cell (i := 2) rfl
  have q3 := (unhide HR8).cell (i := 3) rfl
  have q4 := (unhide HR8).cell (i := 4) rfl
  refine bodyPost_ret (v := vChart c.wd c.hg (.slice (some ⟨g1, 0, none⟩) c.D.length c.D.length) (.slice (some ⟨g2, 0, none⟩) c.F.length c.F.length) c.ed) (by simp [results, Try.results42, go_sem, vChart, q0, q1, q2, q3, q4]) rfl ⟨g1, g2, rfl, by omega, hg12, unhide HO18, unhide HO28, unhide HW8⟩

set_option maxRecDepth 10000 in
set_option maxHeartbeats 1600000 in
theorem readiness_any (c : Ch) (dao : Option Addr) (dn dc : Nat) (fao : Option Addr) (fn fc : Nat) (ed : Int) (nao : Option Addr) (nn nc : Nat) (w : World) (hD : IntsIn w (.slice dao dn dc) c.D) (hF : RFeature w (.slice fao fn fc) c.F) :
    Calls Try.prog 41 #[vChart c.wd c.hg (.slice dao dn dc) (.slice fao fn fc) c.ed, vUpdate ed (.slice nao nn nc)] w fun e w' => e = .returned (.int .i64 (if (!chartB c || !inB nn 1 20) = true then 1 else if ed ≤ c.ed then 2 else if c.ed + 1 < ed then 3 else if 1000000 < ed then 4 else 0)) ∧ Below w.heap.size w w' := by
  have A := Below.step (Below.alloc1 w (.cells #[.int .i64 c.wd, .int .i64 c.hg, .slice dao dn dc, .slice fao fn fc, .int .i64 c.ed] 27)) (Below.alloc1 _ (.cells #[.int .i64 ed, .slice nao nn nc] 35))
  have O1 := (ownV_alloc w #[.int .i64 c.wd, .int .i64 c.hg, .slice dao dn dc, .slice fao fn fc, .int .i64 c.ed] 27).alloc (.cells #[.int .i64 ed, .slice nao nn nc] 35)
  have O2 := ownV_alloc (w.alloc (.cells #[.int .i64 c.wd, .int .i64 c.hg, .slice dao dn dc, .slice fao fn fc, .int .i64 c.ed] 27)) #[.int .i64 ed, .slice nao nn nc] 35
  simp only [World.size_alloc] at O2
  have HC := hide (implChartOk_any c dao dn dc fao fn fc _ (hD.below A) (hF.below A))
  have HW := hide A
  have HO1 := hide O1
  have HO2 := hide O2
  obtain ⟨r, er⟩ : ∃ r : Int, r = (if (!chartB c || !inB nn 1 20) = true then 1 else if ed ≤ c.ed then 2 else if c.ed + 1 < ed then 3 else if 1000000 < ed then 4 else 0) := ⟨_, rfl⟩
  rw [← er]
  have ER := hide er
  clear A O1 O2 hD hF er
  unfold vChart vUpdate at *
  go_enter Try.func41, Try.ntmps41
  go_wp2_with fail
  refine (unhide HC).mono ?_
  rintro e w1 ⟨rfl, hb⟩
  replace HW := hide (Below.step (unhide HW) hb)
  have c4 := ((unhide HO1).step hb).cell (i := 4) rfl
  have u0 := ((unhide HO2).step hb).cell (i := 0) rfl
  have u1 := ((unhide HO2).step hb).cell (i := 1) rfl
  clear hb HC HO1 HO2
  cases hok : chartB c with
  | false =>
    have e1 : r = 1 := by rw [unhide ER, hok]; rfl
    subst e1
    go_wp2
    go_ret
    exact ⟨rfl, unhide HW⟩
  | true =>
    obtain ⟨-, -, -, -, -, -, hed0, hed1⟩ := chartB_head hok
    have i1 : IntKind.i64.wrap (c.ed + 1) = c.ed + 1 := by rw [IntKind.wrap_i64]; omega
    cases hin : inB nn 1 20 with
    | false =>
      have e1 : r = 1 := by rw [unhide ER, hok, hin]; rfl
      subst e1
      go_wp2_with (go_at_call 50; refine (within_any _ _ _ _).mono ?_; rintro e w' ⟨rfl, h9⟩; have h8 := h9.symm; subst h8; clear h9)
      go_ret
      exact ⟨rfl, unhide HW⟩
    | true =>
      have e0 : r = (if ed ≤ c.ed then 2 else if c.ed + 1 < ed then 3 else if 1000000 < ed then 4 else 0) := by rw [unhide ER, hok, hin]; rfl
      clear ER
      have ER := hide e0
      clear e0
      by_cases h2 : ed ≤ c.ed
      · have e1 : r = 2 := by rw [unhide ER, if_pos h2]
        subst e1
        go_wp2_with (go_at_call 50; refine (within_any _ _ _ _).mono ?_; rintro e w' ⟨rfl, h9⟩; have h8 := h9.symm; subst h8; clear h9)
        go_ret
        exact ⟨rfl, unhide HW⟩
      by_cases h3 : c.ed + 1 < ed
      · have e1 : r = 3 := by rw [unhide ER, if_neg h2, if_pos h3]
        subst e1
        go_wp2_with (go_at_call 50; refine (within_any _ _ _ _).mono ?_; rintro e w' ⟨rfl, h9⟩; have h8 := h9.symm; subst h8; clear h9)
        go_ret
        exact ⟨rfl, unhide HW⟩
      by_cases h4 : 1000000 < ed
      · have e1 : r = 4 := by rw [unhide ER, if_neg h2, if_neg h3, if_pos h4]
        subst e1
        go_wp2_with (go_at_call 50; refine (within_any _ _ _ _).mono ?_; rintro e w' ⟨rfl, h9⟩; have h8 := h9.symm; subst h8; clear h9)
        go_ret
        exact ⟨rfl, unhide HW⟩
      have e1 : r = 0 := by rw [unhide ER, if_neg h2, if_neg h3, if_neg h4]
      subst e1
      go_wp2_with (go_at_call 50; refine (within_any _ _ _ _).mono ?_; rintro e w' ⟨rfl, h9⟩; have h8 := h9.symm; subst h8; clear h9)
      go_ret
      exact ⟨rfl, unhide HW⟩

end Go.Proofs.Ytmpicamenjnkkaa

/- Features by their distance, and by id among those as far: mathematics of Near6. No statement about the program stands here. -/
namespace Go.Proofs.Ytmpicamenjnkkaa

def nrLt (x y : Int) (a b : FeatureT) : Prop := nrAt a x y < nrAt b x y ∨ (nrAt a x y = nrAt b x y ∧ a.1 < b.1)
def nrH (F : List FeatureT) (x y : Int) : Nat → List FeatureT
  | 0 => []
  | d + 1 => nrH F x y d ++ F.filter (fun f => decide (nrAt f x y = d))

theorem filter_two {α : Type} (p q r : α → Bool) (h : ∀ a, r a = (p a || q a)) (hd : ∀ a, (p a && q a) = false) : ∀ l : List α, (l.filter r).Perm (l.filter p ++ l.filter q)
  | [] => List.Perm.refl _
  | a :: l => by
    have ih := filter_two p q r h hd l
    have h1 := h a
    have h2 := hd a
    cases hp : p a <;> cases hq : q a <;> rw [hp, hq] at h1 h2
    · simp only [List.filter_cons, hp, hq, h1]; simpa using ih
    · simp only [List.filter_cons, hp, hq, h1]
      simp only [Bool.or_true, if_true, Bool.false_eq_true, if_false]
      exact (List.Perm.cons a ih).trans List.perm_middle.symm
    · simp only [List.filter_cons, hp, hq, h1]
      simp only [Bool.or_false, if_true, Bool.false_eq_true, if_false, List.cons_append]
      exact List.Perm.cons a ih
    · cases h2

theorem eq_of_perm {α : Type} {R : α → α → Prop} (hR : ∀ a b, R a b → R b a → False) : ∀ {l1 l2 : List α}, l1.Perm l2 → l1.Pairwise R → l2.Pairwise R → l1 = l2
  | [], l2, h, _, _ => (List.nil_perm.1 h).symm
  | a :: t1, [], h, _, _ => by have := h.length_eq; simp at this
  | a :: t1, b :: t2, h, h1, h2 => by
    rw [List.pairwise_cons] at h1 h2
    have hab : a = b := by
      apply Classical.byContradiction
      intro hne
      have ha : a ∈ b :: t2 := h.subset List.mem_cons_self
      have hb : b ∈ a :: t1 := h.symm.subset List.mem_cons_self
      rcases List.mem_cons.1 ha with e | ha
      · exact hne e
      rcases List.mem_cons.1 hb with e | hb
      · exact hne e.symm
      exact hR a b (h1.1 b hb) (h2.1 a ha)
    subst hab
    rw [eq_of_perm hR (List.Perm.cons_inv h) h1.2 h2.2]

theorem nearR_take (F : List FeatureT) (x y : Int) (d : Nat) : ∀ k, k ≤ F.length → nearR F x y d k = ((F.take k).filter (fun f => decide (nrAt f x y = d))).map (·.1)
  | 0, _ => by simp [nearR]
  | k + 1, hk => by
    have ih := nearR_take F x y d k (by omega)
    have hlt : k < F.length := by omega
    have e : F.take (k + 1) = F.take k ++ [F.getD k default] := by rw [List.take_add_one, List.getElem?_eq_getElem hlt, getD_lt hlt]; rfl
    rw [nearR, ih, e, List.filter_append, List.map_append]
    generalize F.getD k default = z
    by_cases h : nrAt z x y = d
    · rw [if_pos h]; simp [h]
    · rw [if_neg h]; simp [h]
theorem nearD_H (F : List FeatureT) (x y : Int) : ∀ n, nearD F x y n = (nrH F x y n).map (·.1)
  | 0 => rfl
  | d + 1 => by rw [nearD, nrH, nearD_H F x y d, nearR_take F x y d F.length (Nat.le_refl _), List.take_length, List.map_append]
theorem nrAt_pos (f : FeatureT) (x y : Int) : 0 ≤ nrAt f x y := by unfold nrAt; omega
theorem nrH_lt (F : List FeatureT) (x y : Int) : ∀ n a, a ∈ nrH F x y n → nrAt a x y < n
  | 0, a, h => by simp [nrH] at h
  | d + 1, a, h => by
    rw [nrH, List.mem_append] at h
    rcases h with h | h
    · have := nrH_lt F x y d a h; omega
    · have := of_decide_eq_true (List.mem_filter.1 h).2; omega
theorem nrH_perm (F : List FeatureT) (x y : Int) : ∀ n, (nrH F x y n).Perm (F.filter (fun f => decide (nrAt f x y < n)))
  | 0 => by
    have : F.filter (fun f => decide (nrAt f x y < (0 : Nat))) = [] := by
      rw [List.filter_eq_nil_iff]
      intro a _
      have := nrAt_pos a x y
      simp; omega
    rw [this]; exact List.Perm.refl _
  | d + 1 => by
    have ih := nrH_perm F x y d
    refine List.Perm.trans ?_ (filter_two (fun f => decide (nrAt f x y < d)) (fun f => decide (nrAt f x y = d)) (fun f => decide (nrAt f x y < (d + 1 : Nat))) (fun a => ?_) (fun a => ?_) F).symm
    · exact List.Perm.append_right _ ih
    · rw [← Bool.decide_or, decide_eq_decide]; omega
    · rw [← Bool.decide_and, decide_eq_false_iff_not]; omega
theorem nrH_pair (F : List FeatureT) (x y : Int) (hF : F.Pairwise (fun a b => a.1 < b.1)) : ∀ n, (nrH F x y n).Pairwise (nrLt x y)
  | 0 => List.Pairwise.nil
  | d + 1 => by
    rw [nrH, List.pairwise_append]
    refine ⟨nrH_pair F x y hF d, ?_, fun a ha b hb => ?_⟩
    · refine List.Pairwise.imp_of_mem (fun {a b} ha hb h => ?_) (hF.filter _)
      have h1 := of_decide_eq_true (List.mem_filter.1 ha).2
      have h2 := of_decide_eq_true (List.mem_filter.1 hb).2
      exact Or.inr ⟨by omega, h⟩
    · have h1 := nrH_lt F x y d a ha
      have h2 := of_decide_eq_true (List.mem_filter.1 hb).2
      exact Or.inl (by omega)

theorem near_sorted (F S : List FeatureT) (x y : Int) (n : Nat) (hF : F.Pairwise (fun a b => a.1 < b.1)) (hp : S.Perm F) (hs : S.Pairwise (fun a b => ¬ nrLt x y b a)) :
    (S.filter (fun f => decide (nrAt f x y < n))).map (·.1) = nearD F x y n := by
  rw [nearD_H]
  congr 1
  refine eq_of_perm (R := nrLt x y) (fun a b h1 h2 => by unfold nrLt at h1 h2; omega) ((hp.filter _).trans (nrH_perm F x y n).symm) ?_ (nrH_pair F x y hF n)
  refine List.Pairwise.filter _ ?_
  have hne : S.Pairwise (fun a b => a.1 ≠ b.1) := by
    have h1 : F.Pairwise (fun a b => a.1 ≠ b.1) := hF.imp (fun h => by omega)
    exact (List.Perm.pairwise_iff (fun {a b} h => fun e => h e.symm) hp).2 h1
  refine (List.Pairwise.and hs hne).imp (fun {a b} h => ?_)
  unfold nrLt at h ⊢
  omega

/-- The ids of a right chart are ascending. -/
theorem chart_asc {c : Ch} (h : chartB c = true) : c.F.Pairwise (fun a b => a.1 < b.1) := by
  simp only [chartB, Bool.and_eq_true] at h
  have step : ∀ i, i + 1 < c.F.length → (c.F.getD i default).1 < (c.F.getD (i + 1) default).1 := fun i hi => by
    have hf := List.all_eq_true.1 h.2 (i + 1) (by simpa using hi)
    simp only [featsB, Bool.and_eq_true, Bool.or_eq_true, decide_eq_true_eq] at hf
    rcases hf.2 with e | e
    · omega
    · simpa using e
  have all : ∀ k i, i + k + 1 < c.F.length → (c.F.getD i default).1 < (c.F.getD (i + k + 1) default).1 := fun k => by
    induction k with
    | zero => exact fun i hi => step i hi
    | succ k ih =>
        intro i hi
        have h1 := ih i (by omega)
        have h2 := step (i + k + 1) (by omega)
        exact Int.lt_trans h1 h2
  rw [List.pairwise_iff_getElem]
  intro i j hi hj hij
  have := all (j - i - 1) i (by omega)
  rw [show i + (j - i - 1) + 1 = j by omega, getD_lt hi, getD_lt hj] at this
  exact this

end Go.Proofs.Ytmpicamenjnkkaa

/- Features in the order of their ids: putting in, taking out, and how the notes do it. Mathematics; no statement about the program stands here. -/
namespace Go.Proofs.Ytmpicamenjnkkaa

def insF (f : FeatureT) : List FeatureT → List FeatureT
  | [] => [f]
  | y :: r => if f.1 < y.1 then f :: y :: r else y :: insF f r
def delF (id : Int) (F : List FeatureT) : List FeatureT := F.filter fun f => !decide (f.1 = id)
def putF (f : FeatureT) (F : List FeatureT) : List FeatureT := insF f (delF f.1 F)
def hasF (id : Int) (F : List FeatureT) : Bool := F.any fun f => decide (f.1 = id)
def Asc (F : List FeatureT) : Prop := F.Pairwise (fun a b => a.1 < b.1)

theorem insF_mem {f g : FeatureT} : ∀ {F : List FeatureT}, g ∈ insF f F ↔ g = f ∨ g ∈ F
  | [] => by simp [insF]
  | y :: r => by
    rw [insF]
    split
    · simp
    · rw [List.mem_cons, insF_mem (F := r), List.mem_cons]
      constructor
      · rintro (h | h | h)
        · exact Or.inr (Or.inl h)
        · exact Or.inl h
        · exact Or.inr (Or.inr h)
      · rintro (h | h | h)
        · exact Or.inr (Or.inl h)
        · exact Or.inl h
        · exact Or.inr (Or.inr h)
theorem insF_len (f : FeatureT) : ∀ F : List FeatureT, (insF f F).length = F.length + 1
  | [] => rfl
  | y :: r => by
    rw [insF]
    split
    · rfl
    · rw [List.length_cons, insF_len f r]; rfl
theorem insF_asc {f : FeatureT} : ∀ {F : List FeatureT}, Asc F → (∀ g ∈ F, g.1 ≠ f.1) → Asc (insF f F)
  | [], _, _ => by unfold Asc; simp [insF]
  | y :: r, h, hn => by
    have h' := List.pairwise_cons.1 h
    have hy := hn y List.mem_cons_self
    rw [insF]
    split
    · next hlt =>
      refine List.pairwise_cons.2 ⟨fun g hg => ?_, h⟩
      rcases List.mem_cons.1 hg with rfl | hg
      · exact hlt
      · exact Int.lt_trans hlt (h'.1 g hg)
    · next hlt =>
      refine List.pairwise_cons.2 ⟨fun g hg => ?_, insF_asc h'.2 (fun g hg => hn g (List.mem_cons_of_mem _ hg))⟩
      rcases insF_mem.1 hg with rfl | hg
      · omega
      · exact h'.1 g hg
theorem delF_asc {F : List FeatureT} (id : Int) (h : Asc F) : Asc (delF id F) := List.Pairwise.filter _ h
theorem delF_ne {F : List FeatureT} {id : Int} : ∀ g ∈ delF id F, g.1 ≠ id := fun g hg => by
  have := (List.mem_filter.1 hg).2
  simpa using this
theorem putF_asc {f : FeatureT} {F : List FeatureT} (h : Asc F) : Asc (putF f F) := insF_asc (delF_asc _ h) delF_ne
theorem delF_none {F : List FeatureT} {id : Int} (h : hasF id F = false) : delF id F = F := by
  unfold hasF at h
  unfold delF
  rw [List.filter_eq_self]
  intro g hg
  have := List.any_eq_false.1 h g hg
  simpa using this

theorem findGo_shift (y : FeatureT) (r : List FeatureT) (id : Int) : ∀ n k, findGo (y :: r) id n (k + 1) = if findGo r id n k < 0 then -1 else findGo r id n k + 1
  | 0, k => by simp [findGo]
  | n + 1, k => by
    have ih := findGo_shift y r id n (k + 1)
    rw [findGo, findGo]
    have e : (y :: r).getD (k + 1) default = r.getD k default := by simp [List.getD]
    rw [e]
    by_cases h : (r.getD k default).1 = id
    · rw [if_pos h, if_pos h, if_neg (by omega)]; omega
    · rw [if_neg h, if_neg h, ih]
theorem findOf_cons (y : FeatureT) (r : List FeatureT) (id : Int) : findOf (y :: r) id = if y.1 = id then 0 else if findOf r id < 0 then -1 else findOf r id + 1 := by
  unfold findOf
  rw [List.length_cons, findGo]
  have e : (y :: r).getD 0 default = y := rfl
  rw [e]
  by_cases h : y.1 = id
  · rw [if_pos h, if_pos h]; rfl
  · rw [if_neg h, if_neg h]; exact findGo_shift y r id r.length 0
theorem findOf_has (id : Int) : ∀ F : List FeatureT, decide (0 ≤ findOf F id) = hasF id F
  | [] => rfl
  | y :: r => by
    have ih := findOf_has id r
    have hb := findOf_bd r id
    unfold hasF at ih ⊢
    rw [findOf_cons, List.any_cons, ← ih]
    by_cases h : y.1 = id
    · rw [if_pos h, decide_eq_true h]; rfl
    · rw [if_neg h, decide_eq_false h, Bool.false_or, decide_eq_decide]
      split <;> omega
theorem insAt_ins (f : FeatureT) : ∀ F : List FeatureT, hasF f.1 F = false → F.take (insAt F f.1) ++ f :: F.drop (insAt F f.1) = insF f F
  | [], _ => rfl
  | y :: r, h => by
    unfold hasF at h
    rw [List.any_cons, Bool.or_eq_false_iff] at h
    have hy : y.1 ≠ f.1 := of_decide_eq_false h.1
    have ih := insAt_ins f r h.2
    unfold insAt at ih ⊢
    rw [insF, List.takeWhile_cons]
    by_cases hlt : y.1 < f.1
    · rw [decide_eq_true hlt]
      simp only [if_true, List.length_cons, List.take_succ_cons, List.drop_succ_cons, List.cons_append]
      rw [ih, if_neg (by omega)]
    · have hgt : f.1 < y.1 := by omega
      rw [decide_eq_false hlt]
      simp [hgt]
theorem find_del (id : Int) : ∀ F : List FeatureT, Asc F → 0 ≤ findOf F id → F.take (findOf F id).toNat ++ F.drop ((findOf F id).toNat + 1) = delF id F
  | [], _, h => by simp [findOf, findGo] at h
  | y :: r, ha, h => by
    have h' := List.pairwise_cons.1 ha
    have hb := findOf_bd r id
    rw [findOf_cons] at h ⊢
    by_cases e : y.1 = id
    · rw [if_pos e]
      have : delF id (y :: r) = r := by
        unfold delF
        rw [List.filter_cons, decide_eq_true e]
        simp only [Bool.not_true, Bool.false_eq_true, if_false]
        rw [List.filter_eq_self]
        intro g hg
        have := h'.1 g hg
        simp; omega
      rw [this]; simp
    · rw [if_neg e] at h ⊢
      have h0 : 0 ≤ findOf r id := by
        by_cases hz : findOf r id < 0
        · rw [if_pos hz] at h; omega
        · omega
      rw [if_neg (by omega)]
      have ih := find_del id r h'.2 h0
      have et : (findOf r id + 1).toNat = (findOf r id).toNat + 1 := by omega
      rw [et, List.take_succ_cons, List.drop_succ_cons, List.cons_append, ih]
      unfold delF
      rw [List.filter_cons, decide_eq_false e]
      rfl
theorem find_getD (id : Int) : ∀ F : List FeatureT, 0 ≤ findOf F id → (F.getD (findOf F id).toNat default).1 = id ∧ F.find? (fun f => decide (f.1 = id)) = some (F.getD (findOf F id).toNat default)
  | [], h => by simp [findOf, findGo] at h
  | y :: r, h => by
    have hb := findOf_bd r id
    rw [findOf_cons] at h ⊢
    by_cases e : y.1 = id
    · rw [if_pos e]
      exact ⟨by simpa [List.getD] using e, by rw [List.find?_cons, decide_eq_true e]; rfl⟩
    · rw [if_neg e] at h ⊢
      have h0 : 0 ≤ findOf r id := by
        by_cases hz : findOf r id < 0
        · rw [if_pos hz] at h; omega
        · omega
      rw [if_neg (by omega)]
      have ih := find_getD id r h0
      have et : (findOf r id + 1).toNat = (findOf r id).toNat + 1 := by omega
      have eg : (y :: r).getD ((findOf r id).toNat + 1) default = r.getD (findOf r id).toNat default := by simp [List.getD]
      rw [et, eg, List.find?_cons, decide_eq_false e]
      exact ih
theorem find_put (f : FeatureT) : ∀ F : List FeatureT, Asc F → 0 ≤ findOf F f.1 → F.set (findOf F f.1).toNat f = putF f F
  | [], _, h => by simp [findOf, findGo] at h
  | y :: r, ha, h => by
    have h' := List.pairwise_cons.1 ha
    have hb := findOf_bd r f.1
    rw [findOf_cons] at h ⊢
    by_cases e : y.1 = f.1
    · rw [if_pos e]
      have hd : delF f.1 (y :: r) = r := by
        unfold delF
        rw [List.filter_cons, decide_eq_true e]
        simp only [Bool.not_true, Bool.false_eq_true, if_false]
        rw [List.filter_eq_self]
        intro g hg
        have := h'.1 g hg
        simp; omega
      unfold putF
      rw [hd]
      show f :: r = _
      cases r with
      | nil => rfl
      | cons z t =>
        have := h'.1 z List.mem_cons_self
        rw [insF, if_pos (by omega)]
    · rw [if_neg e] at h ⊢
      have h0 : 0 ≤ findOf r f.1 := by
        by_cases hz : findOf r f.1 < 0
        · rw [if_pos hz] at h; omega
        · omega
      rw [if_neg (by omega)]
      have ih := find_put f r h'.2 h0
      have et : (findOf r f.1 + 1).toNat = (findOf r f.1).toNat + 1 := by omega
      have hm : ∃ g ∈ r, g.1 = f.1 := by
        have hh := findOf_has f.1 r
        rw [decide_eq_true h0] at hh
        obtain ⟨g, hg, hq⟩ := List.any_eq_true.1 hh.symm
        exact ⟨g, hg, of_decide_eq_true hq⟩
      obtain ⟨g, hg, hq⟩ := hm
      have hlt := h'.1 g hg
      have hd : delF f.1 (y :: r) = y :: delF f.1 r := by
        unfold delF
        rw [List.filter_cons, decide_eq_false e]
        rfl
      rw [et, List.set_cons_succ, ih]
      unfold putF
      rw [hd, insF, if_neg (by omega)]

theorem noteOf_asc {c : Ch} (h : Asc c.F) (n : NoteT) : Asc (noteOf c n).1.F := by
  unfold noteOf
  split
  · split
    · exact h
    · next hn =>
      simp only [Bool.or_eq_true, decide_eq_true_eq, not_or] at hn
      have hh : hasF n.2.1 c.F = false := by rw [← findOf_has]; simp; omega
      show Asc (c.F.take (insAt c.F (addedF n).1) ++ addedF n :: c.F.drop (insAt c.F (addedF n).1))
      rw [insAt_ins (addedF n) c.F hh]
      refine insF_asc h (fun g hg e => ?_)
      have := List.any_eq_false.1 hh g hg
      exact this (decide_eq_true e)
  · split
    · split
      · exact h
      · next hn =>
        show Asc (_ ++ _)
        rw [find_del n.2.1 c.F h (by omega)]
        exact delF_asc _ h
    · split
      · split
        · exact h
        · next hn =>
          simp only [Bool.or_eq_true, decide_eq_true_eq, not_or] at hn
          have h0 : 0 ≤ findOf c.F n.2.1 := by omega
          have e := (find_getD n.2.1 c.F h0).1
          show Asc (c.F.set (findOf c.F n.2.1).toNat (movedF (c.F.getD (findOf c.F n.2.1).toNat default) n))
          have e2 : (movedF (c.F.getD (findOf c.F n.2.1).toNat default) n).1 = n.2.1 := e
          have := find_put (movedF (c.F.getD (findOf c.F n.2.1).toNat default) n) c.F h (by rw [e2]; exact h0)
          rw [e2] at this
          rw [this]
          exact putF_asc h
      · split
        · split
          · exact h
          · exact h
        · exact h

end Go.Proofs.Ytmpicamenjnkkaa
