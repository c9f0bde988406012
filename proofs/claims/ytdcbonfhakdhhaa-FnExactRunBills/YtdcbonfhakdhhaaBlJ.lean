/- Blocks told whole; contracts of the program's ownCopy at bills, numbers and texts, and of written. Written by wip/mkblj.py. -/
import Derived.Test.YtdcbonfhakdhhaaBlH
import Derived.Test.YtdcbonfhakdhhaaBlA
namespace Go.Proofs.Ytdcbonfhakdhhaa
open Go.RowKit

/-- Block g is just the cells vs, of type T. -/
def Blk (w : World) (g : Nat) (T : TypeId) (vs : List Value) : Prop := w.heap[g]? = some (.cells vs.toArray T (0, 0))
section
variable {w w' : World} {g : Nat} {T : TypeId} {vs : List Value}
theorem Blk.own (h : Blk w g T vs) : OwnV w g vs := ⟨vs.toArray, T, h, fun i _ => by simp⟩
theorem Blk.lt (h : Blk w g T vs) : g < w.heap.size := h.own.lt
theorem Blk.kept {P : Nat → Prop} (h : Blk w g T vs) (hk : Kept P w w') (hg : ¬ P g) : Blk w' g T vs := (hk.block g h.lt hg).trans h
theorem Blk.step (h : Blk w g T vs) (hb : Below w.heap.size w w') : Blk w' g T vs := (hb.block g h.lt).trans h
theorem Blk.set (h : Blk w g T vs) (i : Nat) (v : Value) : Blk (w.setCell ⟨g, i, none⟩ v) g T (vs.set i v) := by
  have := heap_setCell_same w g i _ _ v h
  unfold Blk
  rw [this]
  simp
theorem Blk.far {g' i : Nat} {v : Value} (h : Blk w g T vs) (hne : g ≠ g') : Blk (w.setCell ⟨g', i, none⟩ v) g T vs := (Below.heap_setCell _ _ _ _ hne).trans h
theorem Blk.row {α : Type} [Inhabited α] {n : Nat} {enc : α → Nat → Value} {L : List α} (h : Blk w g T (recCells n enc L)) (hl : L.length ≤ 1048576) : RowB T n enc 0 w (some ⟨g, 0, none⟩) L.length L.length L :=
  ⟨recCells_length, Or.inr ⟨g, L.length, _, rfl, Nat.zero_le _, h, Nat.le_refl _, by unfold maxLen; omega, by simp [recCells_length], by simp [List.take_of_length_le, recCells_length]⟩⟩
end
def eI (x : Int) (_ : Nat) : Value := .int .i64 x
theorem recI (F : List Int) : recCells 1 eI F = ints F := by
  apply List.ext_getElem?
  intro i
  by_cases hi : i < F.length
  · have e := recCells_get (n := 1) (enc := eI) hi (j := 0) (by omega)
    rw [Nat.mul_one, Nat.add_zero] at e
    rw [e, ints_get F hi]
    rfl
  · rw [List.getElem?_eq_none (by rw [recCells_length]; omega), List.getElem?_eq_none (by rw [ints_length]; omega)]

theorem run_copy_blk {P : Program} {w : World} (dT sT elem T : TypeId) (k : Nat) (hu : P.underlying dT = some (.slice elem)) (hsz : (P.info? elem).map (·.size) = some k)
    (g n dCap : Nat) (sp : Option Addr) (sCap : Nat) (cur : Array Value) (cs : List Value) (hg : w.heap[g]? = some (.cells cur T (0, 0))) (hz : cur.size = cs.length) (hn : cs.length = n * k)
    (hsrc : 0 < n → ∃ ad, sp = some ad ∧ ∀ j v, cs[j]? = some v → w.cell? (ad.add j) = some v) (h1 : ∀ v ∈ cs, v.oneCell' = true)
    (B : Nat) (w0 : World) (hb : Below B w0 w) (hBg : B ≤ g) :
    ∃ w', (∀ ty, (Builtin.copy_ #[dT, sT] ty #[.slice (some ⟨g, 0, none⟩) n dCap, .slice sp n sCap]).run P w = .ok (goInt n) w') ∧ Blk w' g T cs ∧ Below B w0 w' := by
  rcases Nat.eq_zero_or_pos n with h0 | hpos
  · subst h0
    have hc0 : cs = [] := List.eq_nil_of_length_eq_zero (by rw [hn, Nat.zero_mul])
    subst hc0
    have hcur : cur = #[] := Array.eq_empty_of_size_eq_zero (by simpa using hz)
    subst hcur
    exact ⟨w, fun ty => run_copy_k0 (P := P) w dT sT ty elem k (some ⟨g, 0, none⟩) sp dCap sCap hu hsz, hg, hb⟩
  · obtain ⟨ad, rfl, hsr⟩ := hsrc hpos
    refine ⟨_, fun ty => run_copy_k (P := P) w dT sT ty elem k g n dCap ad sCap cur T cs hu hsz hg hn hsr (by omega) h1, ?_, below_setRow' hb hBg _⟩
    have := setRow_heap w g _ (cs ++ cur.toList.drop cs.length).toArray T _ hg
    unfold Blk
    rw [this]
    congr 3
    rw [List.drop_eq_nil_of_le (by simp [hz]), List.append_nil]

set_option maxRecDepth 10000 in
set_option maxHeartbeats 1600000 in
theorem ownCopyBill_blk (ar : Option Addr) (m cr : Nat) (cs : List Value) (w : World) (hcl : cs.length = m * 5) (h1 : ∀ v ∈ cs, v.oneCell' = true) (hsrc : 0 < m → ∃ ad, ar = some ad ∧ ∀ j v, cs[j]? = some v → w.cell? (ad.add j) = some v) (hm : m ≤ 1048576) :
    Calls Try.prog 66 #[.slice ar m cr] w fun e w' => ∃ g, e = .returned (.slice (some ⟨g, 0, none⟩) m m) ∧ w.heap.size ≤ g ∧ Blk w' g 40 cs ∧ Below w.heap.size w w' := by
  have hmk := run_make_recs (P := Try.prog) 24 40 _ 5 72 Try.underlying24 Try.infoBill .i64 .i64 m (by omega) (by omega)
  obtain ⟨Z, eZ⟩ : ∃ Z, Z = (vBill 0 ⟨#[]⟩ ⟨#[]⟩ 0 (.slice none 0 0)).cells := ⟨_, rfl⟩
  rw [← eZ] at hmk
  have hsz : (Try.prog.info? 40).map (·.size) = some 5 := by
    obtain ⟨i0, hi, hzz⟩ := Option.map_eq_some_iff.1 Try.infoBill
    simp only [Prod.mk.injEq] at hzz
    rw [hi, Option.map_some, hzz.2.1]
  have A := Below.alloc1 w (.cells (madeCells Z (m * 5)) 40)
  have hsrc2 : 0 < m → ∃ ad, ar = some ad ∧ ∀ j v, cs[j]? = some v → (w.alloc (.cells (madeCells Z (m * 5)) 40)).cell? (ad.add j) = some v := fun hp => by
    obtain ⟨ad, e, hx⟩ := hsrc hp
    exact ⟨ad, e, fun j v hj => ((A.cell (lt_of_cell (hx j v hj))).trans (hx j v hj))⟩
  obtain ⟨w1, hrun, hO1, hb1⟩ := run_copy_blk (P := Try.prog) 24 24 40 40 5 Try.underlying24 hsz w.heap.size m m ar cr _ cs (Go.Deep.blk_alloc_new _ _) (by rw [size_madeCells, hcl]) hcl hsrc2 h1 w.heap.size w A (Nat.le_refl _)
  have HO1 := hide hO1
  have HW1 := hide hb1
  clear eZ A hsz hsrc2 hO1 hb1 hsrc h1 hcl
  go_enter Try.func66, Try.ntmps66
  go_wp2
  go_ret
  exact ⟨_, rfl, Nat.le_refl _, unhide HO1, unhide HW1⟩

theorem Try.infoI : (Try.prog.info? 3).map (fun i => (i.zero, i.size, i.bytes)) = some (some (Value.int .i64 0), 1, 8) := by kernel_rfl
set_option maxRecDepth 10000 in
set_option maxHeartbeats 1600000 in
theorem ownCopyI_blk (ar : Option Addr) (m cr : Nat) (cs : List Value) (w : World) (hcl : cs.length = m * 1) (h1 : ∀ v ∈ cs, v.oneCell' = true) (hsrc : 0 < m → ∃ ad, ar = some ad ∧ ∀ j v, cs[j]? = some v → w.cell? (ad.add j) = some v) (hm : m ≤ 1048576) :
    Calls Try.prog 67 #[.slice ar m cr] w fun e w' => ∃ g, e = .returned (.slice (some ⟨g, 0, none⟩) m m) ∧ w.heap.size ≤ g ∧ Blk w' g 3 cs ∧ Below w.heap.size w w' := by
  have hmk := run_make_recs (P := Try.prog) 25 3 _ 1 8 Try.underlying25 Try.infoI .i64 .i64 m (by omega) (by omega)
  obtain ⟨Z, eZ⟩ : ∃ Z, Z = (Value.int .i64 0).cells := ⟨_, rfl⟩
  rw [← eZ] at hmk
  rw [Nat.mul_one] at hmk
  have hsz : (Try.prog.info? 3).map (·.size) = some 1 := by
    obtain ⟨i0, hi, hzz⟩ := Option.map_eq_some_iff.1 Try.infoI
    simp only [Prod.mk.injEq] at hzz
    rw [hi, Option.map_some, hzz.2.1]
  have A := Below.alloc1 w (.cells (madeCells Z (m)) 3)
  have hsrc2 : 0 < m → ∃ ad, ar = some ad ∧ ∀ j v, cs[j]? = some v → (w.alloc (.cells (madeCells Z (m)) 3)).cell? (ad.add j) = some v := fun hp => by
    obtain ⟨ad, e, hx⟩ := hsrc hp
    exact ⟨ad, e, fun j v hj => ((A.cell (lt_of_cell (hx j v hj))).trans (hx j v hj))⟩
  obtain ⟨w1, hrun, hO1, hb1⟩ := run_copy_blk (P := Try.prog) 25 25 3 3 1 Try.underlying25 hsz w.heap.size m m ar cr _ cs (Go.Deep.blk_alloc_new _ _) (by rw [size_madeCells, hcl]; simp) hcl hsrc2 h1 w.heap.size w A (Nat.le_refl _)
  have HO1 := hide hO1
  have HW1 := hide hb1
  clear eZ A hsz hsrc2 hO1 hb1 hsrc h1 hcl
  go_enter Try.func67, Try.ntmps67
  go_wp2
  go_ret
  exact ⟨_, rfl, Nat.le_refl _, unhide HO1, unhide HW1⟩

set_option maxRecDepth 10000 in
set_option maxHeartbeats 1600000 in
theorem ownCopyS_blk (ar : Option Addr) (m cr : Nat) (cs : List Value) (w : World) (hcl : cs.length = m * 1) (h1 : ∀ v ∈ cs, v.oneCell' = true) (hsrc : 0 < m → ∃ ad, ar = some ad ∧ ∀ j v, cs[j]? = some v → w.cell? (ad.add j) = some v) (hm : m ≤ 1048576) :
    Calls Try.prog 68 #[.slice ar m cr] w fun e w' => ∃ g, e = .returned (.slice (some ⟨g, 0, none⟩) m m) ∧ w.heap.size ≤ g ∧ Blk w' g 9 cs ∧ Below w.heap.size w w' := by
  have hmk := run_make_recs (P := Try.prog) 38 9 _ 1 16 Try.underlying38 Try.infoStr .i64 .i64 m (by omega) (by omega)
  obtain ⟨Z, eZ⟩ : ∃ Z, Z = (Value.string ⟨#[]⟩).cells := ⟨_, rfl⟩
  rw [← eZ] at hmk
  rw [Nat.mul_one] at hmk
  have hsz : (Try.prog.info? 9).map (·.size) = some 1 := by
    obtain ⟨i0, hi, hzz⟩ := Option.map_eq_some_iff.1 Try.infoStr
    simp only [Prod.mk.injEq] at hzz
    rw [hi, Option.map_some, hzz.2.1]
  have A := Below.alloc1 w (.cells (madeCells Z (m)) 9)
  have hsrc2 : 0 < m → ∃ ad, ar = some ad ∧ ∀ j v, cs[j]? = some v → (w.alloc (.cells (madeCells Z (m)) 9)).cell? (ad.add j) = some v := fun hp => by
    obtain ⟨ad, e, hx⟩ := hsrc hp
    exact ⟨ad, e, fun j v hj => ((A.cell (lt_of_cell (hx j v hj))).trans (hx j v hj))⟩
  obtain ⟨w1, hrun, hO1, hb1⟩ := run_copy_blk (P := Try.prog) 38 38 9 9 1 Try.underlying38 hsz w.heap.size m m ar cr _ cs (Go.Deep.blk_alloc_new _ _) (by rw [size_madeCells, hcl]; simp) hcl hsrc2 h1 w.heap.size w A (Nat.le_refl _)
  have HO1 := hide hO1
  have HW1 := hide hb1
  clear eZ A hsz hsrc2 hO1 hb1 hsrc h1 hcl
  go_enter Try.func68, Try.ntmps68
  go_wp2
  go_ret
  exact ⟨_, rfl, Nat.le_refl _, unhide HO1, unhide HW1⟩

theorem strs_src {w : World} {ao : Option Addr} {m cap : Nat} {H : List ByteArray} (h : SIn w (.slice ao m cap) H) :
    0 < m → ∃ ad, ao = some ad ∧ ∀ j v, (strs H)[j]? = some v → w.cell? (ad.add j) = some v := by
  obtain ⟨hl, -, -⟩ := h.slice_len
  have hc := h.cells
  intro hpos
  obtain ⟨b, o, e, hx⟩ := hc 0 (by omega)
  refine ⟨_, e, fun j v hj => ?_⟩
  have hjl : j < H.length := by
    rcases Nat.lt_or_ge j H.length with h | h
    · exact h
    · rw [List.getElem?_eq_none (by simpa using h)] at hj; cases hj
  obtain ⟨b', o', e', hx'⟩ := hc j hjl
  rw [e] at e'
  simp only [Option.some.injEq, Addr.mk.injEq, and_true] at e'
  obtain ⟨rfl, rfl⟩ := e'
  have hadd : (⟨b, o, none⟩ : Addr).add j = ⟨b, o + j, none⟩ := by unfold Addr.add; split <;> simp_all
  rw [map_get H hjl] at hj
  rw [hadd, hx']
  exact hj
theorem strs_one (H : List ByteArray) : ∀ v ∈ strs H, v.oneCell' = true := fun v hv => by
  obtain ⟨x, _, rfl⟩ := List.mem_map.1 hv; rfl
theorem ints_one (F : List Int) : ∀ v ∈ ints F, v.oneCell' = true := fun v hv => by
  obtain ⟨x, _, rfl⟩ := List.mem_map.1 hv; rfl

/-- The cells of bills that came in. -/
def rawB (x : BlT) (q : Option Addr × Nat) : Nat → Value
  | 0 => .int .i64 x.1
  | 1 => .string x.2.1
  | 2 => .string x.2.2.1
  | 3 => .int .i64 x.2.2.2.1
  | _ => .slice q.1 x.2.2.2.2.length q.2
theorem pick_lt {α : Type} [Inhabited α] {n : Nat} {p : Nat → α → Prop} (h : ∀ i, i < n → ∃ q, p i q) : ∃ f : Nat → α, ∀ i, i < n → p i (f i) :=
  ⟨fun i => if hi : i < n then Classical.choose (h i hi) else default, fun i hi => by simp only [dif_pos hi]; exact Classical.choose_spec (h i hi)⟩
theorem bls_src {w : World} {ao : Option Addr} {m cap : Nat} {L : List BlT} (h : BlsIn w (.slice ao m cap) L) : ∃ cs : List Value, cs.length = m * 5 ∧ (∀ v ∈ cs, v.oneCell' = true) ∧ (0 < m → ∃ ad, ao = some ad ∧ ∀ j v, cs[j]? = some v → w.cell? (ad.add j) = some v) ∧
    ∀ r, r < L.length → ∃ q, (∀ j, j < 5 → cs[r * 5 + j]? = some (rawB (L.getD r default) q j)) ∧ SIn w (.slice q.1 (L.getD r default).2.2.2.2.length q.2) (L.getD r default).2.2.2.2 := by
  obtain ⟨ao', cap', e, h1, h2, h3⟩ := h
  simp only [Value.slice.injEq] at e
  obtain ⟨rfl, rfl, rfl⟩ := e
  have h4 : ∀ i, i < L.length → ∃ q : Option Addr × Nat, ∃ b o, ao = some ⟨b, o, none⟩ ∧ (∀ j, j < 5 → w.cell? ⟨b, o + i * 5 + j, none⟩ = some (rawB (L.getD i default) q j)) ∧ SIn w (.slice q.1 (L.getD i default).2.2.2.2.length q.2) (L.getD i default).2.2.2.2 := fun i hi => by
    obtain ⟨b, o, na, nc, e1, c0, c1, c2, c3, c4, hr⟩ := h3 i hi
    refine ⟨(na, nc), b, o, e1, fun j hj => ?_, hr⟩
    have : j = 0 ∨ j = 1 ∨ j = 2 ∨ j = 3 ∨ j = 4 := by omega
    rcases this with rfl | rfl | rfl | rfl | rfl
    · exact c0
    · exact c1
    · exact c2
    · exact c3
    · exact c4
  obtain ⟨Q, hQ⟩ := pick_lt h4
  have hget : ∀ q, q < L.length * 5 → ((List.range (L.length * 5)).map fun q => rawB (L.getD (q / 5) default) (Q (q / 5)) (q % 5))[q]? = some (rawB (L.getD (q / 5) default) (Q (q / 5)) (q % 5)) := fun q hq => by
    rw [List.getElem?_map, List.getElem?_range hq, Option.map_some]
  refine ⟨(List.range (L.length * 5)).map fun q => rawB (L.getD (q / 5) default) (Q (q / 5)) (q % 5), by simp, fun v hv => ?_, fun hpos => ?_, fun r hr => ?_⟩
  · obtain ⟨q, _, rfl⟩ := List.mem_map.1 hv
    have : q % 5 = 0 ∨ q % 5 = 1 ∨ q % 5 = 2 ∨ q % 5 = 3 ∨ q % 5 = 4 := by omega
    rcases this with e | e | e | e | e <;> rw [e] <;> rfl
  · obtain ⟨b, o, e1, -⟩ := hQ 0 hpos
    refine ⟨⟨b, o, none⟩, e1, fun j v hj => ?_⟩
    by_cases hlt : j < L.length * 5
    · obtain ⟨b', o', e2, hc, -⟩ := hQ (j / 5) (by omega)
      rw [e1] at e2
      simp only [Option.some.injEq, Addr.mk.injEq, and_true] at e2
      obtain ⟨rfl, rfl⟩ := e2
      rw [hget j hlt] at hj
      rw [show (⟨b, o, none⟩ : Addr).add j = ⟨b, o + j, none⟩ from by simp [Addr.add], show o + j = o + j / 5 * 5 + j % 5 by omega, hc (j % 5) (by omega)]
      exact hj
    · rw [List.getElem?_eq_none (by simp; omega)] at hj
      cases hj
  · obtain ⟨b, o, -, -, hr'⟩ := hQ r hr
    refine ⟨Q r, fun j hj => ?_, hr'⟩
    have := hget (r * 5 + j) (by omega)
    rwa [show (r * 5 + j) / 5 = r by omega, show (r * 5 + j) % 5 = j by omega] at this

theorem strs_zero {w : World} (n : Nat) (t : TypeId) : OwnV (w.alloc (.cells (madeCells #[.string nob] n) t)) w.heap.size (strs (List.replicate n nob)) := by
  have := ownV_alloc w (madeCells #[.string nob] n) t
  rwa [show (madeCells #[.string nob] n).toList = strs (List.replicate n nob) from ?_] at this
  apply List.ext_getElem?
  intro i
  by_cases hi : i < n
  · simp [madeCells, strs, hi, Nat.mod_one]
  · rw [List.getElem?_eq_none (by simp [madeCells]; omega), List.getElem?_eq_none (by simp; omega)]

/-- What is held while a bill is written. -/
structure Wr (w wr : World) (g : Nat) (xs : List Value) (zs : List Value) (S : List ByteArray) : Prop where
  below : Below w.heap.size w wr
  bx : OwnV wr w.heap.size xs
  res : OwnV wr (w.heap.size + 1) zs
  row : OwnV wr g (strs S)
  ge : w.heap.size + 1 < g
theorem Wr.drew {w wr : World} {g : Nat} {xs zs : List Value} {S : List ByteArray} (h : Wr w wr g xs zs S) : Wr w wr.drew g xs zs S := ⟨h.below.drew, h.bx.drew, h.res.drew, h.row.drew, h.ge⟩

set_option maxRecDepth 10000 in
set_option maxHeartbeats 3200000 in
theorem written_any (B : Nat) (pg : Nat) (od : ByteArray) (H : List ByteArray) (xi : Int) (sh od0 : ByteArray) (mn0 : Int) (na : Option Addr) (nn nc : Nat) (w : World) (h : Pap B w pg od H) (hn : H.length ≤ 1048576) :
    Calls Try.prog 87 #[.pointer (some ⟨pg, 0, none⟩), vBill xi sh od0 mn0 (.slice na nn nc)] w fun e w' => ∃ g, e = .returned (vBill xi sh od (H.length : Int) (.slice (some ⟨g, 0, none⟩) H.length H.length)) ∧ w.heap.size ≤ g ∧ OwnV w' g (strs H) ∧ Below w.heap.size w w' := by
  have HP := hide h
  obtain ⟨og, Ps, h1, -, -, h4, -⟩ := h
  obtain ⟨V1, eV1⟩ : ∃ V, V = (w.alloc (.cells #[.int .i64 xi, .string sh, .string od0, .int .i64 mn0, .slice na nn nc] 40)).alloc (.cells #[.int .i64 0, .string ⟨#[]⟩, .string ⟨#[]⟩, .int .i64 0, .slice none 0 0] 40) := ⟨_, rfl⟩
  have A : Below w.heap.size w V1 := by rw [eV1]; exact Below.step (Below.alloc1 _ _) (Below.alloc1 _ _)
  have O1 : OwnV V1 w.heap.size [.int .i64 xi, .string sh, .string od0, .int .i64 mn0, .slice na nn nc] := by rw [eV1]; exact (ownV_alloc w #[.int .i64 xi, .string sh, .string od0, .int .i64 mn0, .slice na nn nc] 40).alloc _
  have O2 : OwnV V1 (w.heap.size + 1) [.int .i64 0, .string ⟨#[]⟩, .string ⟨#[]⟩, .int .i64 0, .slice none 0 0] := by
    have := ownV_alloc (w.alloc (.cells #[.int .i64 xi, .string sh, .string od0, .int .i64 mn0, .slice na nn nc] 40)) #[.int .i64 0, .string ⟨#[]⟩, .string ⟨#[]⟩, .int .i64 0, .slice none 0 0] 40
    rw [World.size_alloc] at this
    rw [eV1]; exact this
  have c0 := (h1.step A).cell (i := 0) rfl
  have c1 := (h1.step A).cell (i := 1) rfl
  have hpl := h1.lt
  have x2 := O1.cell (i := 2) rfl
  have x3 := O1.cell (i := 3) rfl
  have x4 := O1.cell (i := 4) rfl
  have xf := O1.frozen
  obtain ⟨n, en⟩ : ∃ n, n = H.length := ⟨_, rfl⟩
  have hmk := run_make_recs (P := Try.prog) 38 9 _ 1 16 Try.underlying38 Try.infoStr .i64 .i64 n (by omega) (by omega)
  rw [Nat.mul_one] at hmk
  obtain ⟨V2, eV2⟩ : ∃ V, V = (V1.setCell ⟨w.heap.size, 2, none⟩ (.string od)).setCell ⟨w.heap.size, 3, none⟩ (.int .i64 n) := ⟨_, rfl⟩
  have A2 : Below w.heap.size w V2 := by rw [eV2]; exact (A.setCell (p := ⟨w.heap.size, 2, none⟩) (Nat.le_refl _) _).setCell (p := ⟨w.heap.size, 3, none⟩) (Nat.le_refl _) _
  have P1 : OwnV V2 w.heap.size [.int .i64 xi, .string sh, .string od, .int .i64 n, .slice na nn nc] := by rw [eV2]; exact (O1.set 2 (.string od) (by simp)).set 3 (.int .i64 n) (by simp)
  have P2 : OwnV V2 (w.heap.size + 1) [.int .i64 0, .string ⟨#[]⟩, .string ⟨#[]⟩, .int .i64 0, .slice none 0 0] := by rw [eV2]; exact farN (farN O2 (by omega) _ _) (by omega) _ _
  have y4 := P1.cell (i := 4) rfl
  have yf := P1.frozen
  have hV2 : w.heap.size + 1 < V2.heap.size := P2.lt
  obtain ⟨gn, egn⟩ : ∃ g, g = V2.heap.size := ⟨_, rfl⟩
  obtain ⟨V3, eV3⟩ : ∃ V, V = (V2.alloc (.cells (madeCells #[.string nob] n) 9)).setCell ⟨w.heap.size, 4, none⟩ (.slice (some ⟨gn, 0, none⟩) n n) := ⟨_, rfl⟩
  have A3 := Below.alloc1 V2 (.cells (madeCells #[.string nob] n) 9)
  have HS : Hid (Wr w V3 gn [.int .i64 xi, .string sh, .string od, .int .i64 n, .slice (some ⟨gn, 0, none⟩) n n] [.int .i64 0, .string ⟨#[]⟩, .string ⟨#[]⟩, .int .i64 0, .slice none 0 0] (List.replicate n nob)) := by
    rw [eV3, egn]
    exact ⟨(Below.step A2 A3).setCell (p := ⟨w.heap.size, 4, none⟩) (Nat.le_refl _) _, (P1.step A3).set 4 _ (by simp), farN (P2.step A3) (by omega) _ _, farN (strs_zero n 9) (by omega) _ _, by omega⟩
  have c0' := (h1.step A2).cell (i := 1) rfl
  have c0'' := wcell3 c0' A3
  have z4 := wcell3 y4 A3
  have zf := (P1.step A3).frozen
  have c3 := (h1.step (unhide HS).below).cell (i := 1) rfl
  have HOR := hide fun V (hV : Below w.heap.size w V) => h4.step hV
  rw [← en] at c1 c0' c0'' c3
  have EN := hide en
  have hn' : n ≤ 1048576 := by rw [en]; exact hn
  have hpg1 : ¬ w.heap.size = pg := by omega
  have hpg2 : ¬ pg = w.heap.size := by omega
  have hVn : ¬ gn = w.heap.size := by omega
  clear h1 h4 A O1 O2 A2 P1 P2 A3 en hn
  unfold vBill
  go_enter Try.func87, Try.ntmps87
  go_upto_region 1 with (fail)
  rw [← eV1]
  clear eV1
  go_upto_region 3 with (fail)
  rw [← eV2]
  clear eV2 c0 c1 x2 x3 x4 xf
  go_upto_region 4 with (fail)
  rw [← egn, ← eV3]
  clear eV3 c0' c0'' z4 zf y4 yf hmk egn
  go_wp2
  go_loopg [30] n (fun g iv wr => ∃ k : Nat, k ≤ n ∧ g = n - k ∧ iv = .int .i64 k ∧ Hid (Wr w wr gn [.int .i64 xi, .string sh, .string od, .int .i64 n, .slice (some ⟨gn, 0, none⟩) n n] [.int .i64 0, .string ⟨#[]⟩, .string ⟨#[]⟩, .int .i64 0, .slice none 0 0] (upTo H k)))
  case atStart => exact ⟨0, Nat.zero_le _, rfl, rfl, by rw [upTo_zero, ← unhide EN]; exact HS⟩
  case round =>
    clear HS c3
    obtain ⟨k, hk, rfl, rfl, HS⟩ := hrel
    have hge := (unhide HS).ge
    by_cases hkn : k < n
    · have hki : (k : Int) < n := by omega
      have hk' : k < H.length := by rw [← unhide EN]; exact hkn
      have hO := unhide HOR _ (unhide HS).below
      have hcell := hO.cell hk'
      have hl : k < (upTo H k).length := by rw [upTo_len _ (by omega)]; exact hk'
      rcases hO.who k hk' with ⟨e1, e2⟩ | ⟨g, e1, ho, _, _, e2⟩
      · have HE := hide (upTo_none H hk' e2)
        rw [e1] at hcell
        unfold ptr at hcell
        clear hO e1 e2 hk' hl
        go_wp2
        go_roundg (n - (k + 1))
        case measure => omega
        case rel => exact ⟨k + 1, by omega, rfl, by go_num, by rw [← unhide HE]; exact HS⟩
      · have hc := ho.cell (i := 0) rfl
        have hx4 := (unhide HS).bx.cell (i := 4) rfl
        have hr := (unhide HS).row.cell (map_get (E := Value.string) (upTo H k) hl)
        have hrf := (unhide HS).row.frozen
        rw [e1] at hcell
        unfold ptr at hcell
        have HN : Hid (Wr w (wr.setCell ⟨gn, k, none⟩ (.string (H.getD k default))) gn [.int .i64 xi, .string sh, .string od, .int .i64 n, .slice (some ⟨gn, 0, none⟩) n n] [.int .i64 0, .string ⟨#[]⟩, .string ⟨#[]⟩, .int .i64 0, .slice none 0 0] (upTo H (k + 1))) := by
          have h9 := unhide HS
          refine ⟨h9.below.setCell (p := ⟨gn, k, none⟩) (by show w.heap.size ≤ gn; omega) _, farN h9.bx (by omega) _ _, farN h9.res (by omega) _ _, ?_, h9.ge⟩
          have := h9.row.set k (.string (H.getD k default)) (by rw [List.length_map]; exact hl)
          rw [← List.map_set, upTo_set H hk'] at this
          exact this
        generalize H.getD k default = s at *
        generalize (upTo H k).getD k default = s' at *
        clear hO e1 e2 hk' hl ho HS
        go_wp2
        go_region
        go_wp2
        go_roundg (n - (k + 1))
        case measure => omega
        case rel => exact ⟨k + 1, by omega, rfl, by go_num, (unhide HN).drew⟩
    · have hkk : k = n := by omega
      subst hkk
      have h9 := unhide HS
      have e9 := upTo_all H
      rw [← unhide EN] at e9
      rw [e9] at h9
      have x0 := h9.bx.cell (i := 0) rfl
      have x1 := h9.bx.cell (i := 1) rfl
      have x2 := h9.bx.cell (i := 2) rfl
      have x3 := h9.bx.cell (i := 3) rfl
      have x4 := h9.bx.cell (i := 4) rfl
      have y0 := h9.res.cell (i := 0) rfl
      have y1 := h9.res.cell (i := 1) rfl
      have y2 := h9.res.cell (i := 2) rfl
      have y3 := h9.res.cell (i := 3) rfl
      have y4 := h9.res.cell (i := 4) rfl
      have yf := h9.res.frozen
      have HR := hide (((((h9.res.set 0 (.int .i64 xi) (by simp)).set 1 (.string sh) (by simp)).set 2 (.string od) (by simp)).set 3 (.int .i64 k) (by simp)).set 4 (.slice (some ⟨gn, 0, none⟩) k k) (by simp))
      have HG := hide (farN (farN (farN (farN (farN h9.row (show gn ≠ w.heap.size + 1 by omega) 0 (.int .i64 xi)) (show gn ≠ w.heap.size + 1 by omega) 1 (.string sh)) (show gn ≠ w.heap.size + 1 by omega) 2 (.string od)) (show gn ≠ w.heap.size + 1 by omega) 3 (.int .i64 k)) (show gn ≠ w.heap.size + 1 by omega) 4 (.slice (some ⟨gn, 0, none⟩) k k))
      have HBW := hide (((((h9.below.setCell (p := ⟨w.heap.size + 1, 0, none⟩) (by show w.heap.size ≤ w.heap.size + 1; omega) (.int .i64 xi)).setCell (p := ⟨w.heap.size + 1, 1, none⟩) (by show w.heap.size ≤ w.heap.size + 1; omega) (.string sh)).setCell (p := ⟨w.heap.size + 1, 2, none⟩) (by show w.heap.size ≤ w.heap.size + 1; omega) (.string od)).setCell (p := ⟨w.heap.size + 1, 3, none⟩) (by show w.heap.size ≤ w.heap.size + 1; omega) (.int .i64 k)).setCell (p := ⟨w.heap.size + 1, 4, none⟩) (by show w.heap.size ≤ w.heap.size + 1; omega) (.slice (some ⟨gn, 0, none⟩) k k))
      clear h9 HS e9
      go_wp2
      have k0 := (unhide HR).cell (i := 0) rfl
      have k1 := (unhide HR).cell (i := 1) rfl
      have k2 := (unhide HR).cell (i := 2) rfl
      have k3 := (unhide HR).cell (i := 3) rfl
      have k4 := (unhide HR).cell (i := 4) rfl
      refine bodyPost_ret (v := vBill xi sh od (k : Int) (.slice (some ⟨gn, 0, none⟩) k k)) (by simp [results, Try.results87, go_sem, vBill, k0, k1, k2, k3, k4]) rfl ⟨gn, by rw [← unhide EN]; rfl, by omega, unhide HG, unhide HBW⟩

end Go.Proofs.Ytdcbonfhakdhhaa
