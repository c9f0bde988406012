/- Laid together out of: ImG, ShKeys, ImH, ImShoals, ImI. -/
import Derived.Test.YtmpicamenjnkkaaPl
import Derived.Shelf.SlIterI.Nil
import Derived.Shelf.SortM.Plain
import Derived.Shelf.SortM.SortNone
import Derived.Test.YtmpicamenjnkkaaProg
import Derived.Test.YtmpicamenjnkkaaPj
import Derived.Test.YtmpicamenjnkkaaPd
import Derived.Deep.DeepCutAuto
import Derived.Deep.RegionLaw
import Derived.Deep.AppendLies
import Derived.WideShapes
import Derived.Test.YtmpicamenjnkkaaPf

/- The contract of the sheet's do. -/
namespace Go.Proofs.Ytmpicamenjnkkaa
open Go.RowKit

theorem Sh.more {w W : World} {s gd b n : Nat} {fv : Value} {c : Ch} (h : Sh w W s gd b n fv c) : Sh w W s gd b (n + 1) fv c := ⟨h.below, h.box, h.deps, World.ownsMap.mono h.map (Nat.le_succ n), h.ne, h.lo⟩

theorem note_add (c : Ch) (n : NoteT) (hk : n.1 = 1) : (noteOf c n).2 = addB c (addedF n) ∧ (addB c (addedF n) = true → (noteOf c n).1 = { c with F := putF (addedF n) c.F }) := by
  unfold noteOf
  rw [if_pos hk]
  have hh := findOf_has n.2.1 c.F
  have ea : (addedF n).1 = n.2.1 := rfl
  by_cases h : (!featB c.wd c.hg (addedF n) || decide (0 ≤ findOf c.F n.2.1) || decide (30 ≤ c.F.length)) = true
  · rw [if_pos h]
    have : addB c (addedF n) = false := by
      unfold addB
      rw [hh] at h
      rw [ea]
      revert h
      cases featB c.wd c.hg (addedF n) <;> cases hasF n.2.1 c.F <;> cases decide (30 ≤ c.F.length) <;> simp
    rw [this]
    exact ⟨rfl, fun e => by cases e⟩
  · rw [if_neg h]
    have hf : hasF n.2.1 c.F = false := by
      rw [← hh]
      cases hd : decide (0 ≤ findOf c.F n.2.1) with
      | false => rfl
      | true => exact absurd (by rw [hd]; simp) h
    have : addB c (addedF n) = true := by
      unfold addB
      rw [hh] at h
      rw [ea]
      revert h
      cases featB c.wd c.hg (addedF n) <;> cases hasF n.2.1 c.F <;> cases decide (30 ≤ c.F.length) <;> simp
    rw [this]
    refine ⟨rfl, fun _ => ?_⟩
    show ({ c with F := c.F.take (insAt c.F (addedF n).1) ++ addedF n :: c.F.drop (insAt c.F (addedF n).1) } : Ch) = _
    rw [insAt_ins (addedF n) c.F hf]
    unfold putF
    rw [ea, delF_none hf]
theorem note_drop (c : Ch) (n : NoteT) (hk : n.1 = 2) (ha : Asc c.F) : (noteOf c n).2 = hasF n.2.1 c.F ∧ (hasF n.2.1 c.F = true → (noteOf c n).1 = { c with F := delF n.2.1 c.F }) := by
  unfold noteOf
  rw [if_neg (by omega), if_pos hk]
  have hh := findOf_has n.2.1 c.F
  by_cases h : findOf c.F n.2.1 < 0
  · rw [if_pos h, ← hh, decide_eq_false (by omega)]
    exact ⟨rfl, fun e => by cases e⟩
  · rw [if_neg h, ← hh, decide_eq_true (by omega)]
    refine ⟨rfl, fun _ => ?_⟩
    dsimp only
    rw [find_del n.2.1 c.F ha (by omega)]
theorem note_move (c : Ch) (n : NoteT) (hk : n.1 = 3) (ha : Asc c.F) : (noteOf c n).2 = (hasF n.2.1 c.F && placeB c.wd c.hg n.2.2.1 n.2.2.2.1) ∧ ((hasF n.2.1 c.F && placeB c.wd c.hg n.2.2.1 n.2.2.2.1) = true → (noteOf c n).1 = { c with F := putF (n.2.1, (gF c.F n.2.1).2.1, n.2.2.1, n.2.2.2.1, (gF c.F n.2.1).2.2.2.2) c.F }) := by
  unfold noteOf
  rw [if_neg (by omega), if_neg (by omega), if_pos hk]
  have hh := findOf_has n.2.1 c.F
  by_cases h0 : findOf c.F n.2.1 < 0
  · rw [if_pos (by rw [decide_eq_true h0]; rfl), ← hh, decide_eq_false (by omega)]
    exact ⟨rfl, fun e => by cases e⟩
  · rw [decide_eq_false h0, Bool.false_or, ← hh, decide_eq_true (by omega), Bool.true_and]
    cases hp : placeB c.wd c.hg n.2.2.1 n.2.2.2.1 with
    | false => exact ⟨rfl, fun e => by cases e⟩
    | true =>
      refine ⟨rfl, fun _ => ?_⟩
      have hg := gF_found (F := c.F) (id := n.2.1) (by omega)
      have e1 := (find_getD n.2.1 c.F (by omega)).1
      have e2 : movedF (c.F.getD (findOf c.F n.2.1).toNat default) n = (n.2.1, (gF c.F n.2.1).2.1, n.2.2.1, n.2.2.2.1, (gF c.F n.2.1).2.2.2.2) := by
        unfold movedF
        rw [← hg, ← hg] at *
        rw [e1]
      simp only [Bool.not_true, Bool.false_eq_true, if_false]
      rw [e2]
      have hput := find_put (n.2.1, (gF c.F n.2.1).2.1, n.2.2.1, n.2.2.2.1, (gF c.F n.2.1).2.2.2.2) c.F ha (by show 0 ≤ findOf c.F n.2.1; omega)
      dsimp only at hput
      rw [hput]
theorem note_sound (c : Ch) (n : NoteT) (hk : n.1 = 4) : (noteOf c n).2 = (placeB c.wd c.hg n.2.2.1 n.2.2.2.1 && inB n.2.2.2.2.1 (-1000) 10000) ∧ ((placeB c.wd c.hg n.2.2.1 n.2.2.2.1 && inB n.2.2.2.2.1 (-1000) 10000) = true → (noteOf c n).1 = { c with D := c.D.set (n.2.2.2.1 * c.wd + n.2.2.1).toNat n.2.2.2.2.1 }) := by
  unfold noteOf
  rw [if_neg (by omega), if_neg (by omega), if_neg (by omega), if_pos hk]
  cases hp : placeB c.wd c.hg n.2.2.1 n.2.2.2.1 <;> cases hi : inB n.2.2.2.2.1 (-1000) 10000
  · exact ⟨rfl, fun e => by cases e⟩
  · exact ⟨rfl, fun e => by cases e⟩
  · exact ⟨rfl, fun e => by cases e⟩
  · exact ⟨rfl, fun _ => rfl⟩
theorem note_none (c : Ch) (n : NoteT) (h1 : n.1 ≠ 1) (h2 : n.1 ≠ 2) (h3 : n.1 ≠ 3) (h4 : n.1 ≠ 4) : (noteOf c n).2 = false := by
  unfold noteOf
  rw [if_neg h1, if_neg h2, if_neg h3, if_neg h4]

set_option maxRecDepth 10000 in
set_option maxHeartbeats 8000000 in
theorem shDo_any (w W : World) (s gd b n : Nat) (fv : Value) (c : Ch) (k id x y d : Int) (t : ByteArray) (so : Int) (h : Sh w W s gd b n fv c) (ha : Asc c.F) (hn : n ≤ 1000) (hw : 1 ≤ c.wd ∧ c.wd ≤ 12) (hh : 1 ≤ c.hg ∧ c.hg ≤ 12) (hl : (c.D.length : Int) = c.wd * c.hg) (hf0 : -9223372036854775808 ≤ id) (hf1 : id ≤ 9223372036854775807) :
    Calls Try.prog 44 #[.pointer (some ⟨s, 0, none⟩), vNote k id x y d t so] W fun e W' => e = .returned (.bool (noteOf c (k, id, x, y, d, t, so)).2) ∧ Below w.heap.size w W' ∧ ((noteOf c (k, id, x, y, d, t, so)).2 = true → Sh w W' s gd b (n + 1) fv (noteOf c (k, id, x, y, d, t, so)).1) := by
  have HS := hide (h.step (Below.alloc1 W (.cells #[.int .i64 k, .int .i64 id, .int .i64 x, .int .i64 y, .int .i64 d, .string t, .int .i64 so] 74)))
  clear h
  obtain ⟨NT, eNT⟩ : ∃ NT, NT = noteOf c (k, id, x, y, d, t, so) := ⟨_, rfl⟩
  rw [← eNT]
  have EN := hide eNT
  clear eNT
  unfold vNote
  by_cases h1 : k = 1
  · subst h1
    obtain ⟨e1, e2⟩ := note_add c (1, id, x, y, d, t, so) rfl
    rw [← unhide EN] at e1 e2
    have HQ := hide (shAdd_any w _ s gd b n fv c id so x y t (unhide HS) hn hw hh hf0 hf1)
    have E1 : Hid (NT.2 = addB c (id, so, x, y, t)) := e1
    have E2 : Hid (addB c (id, so, x, y, t) = true → NT.1 = { c with F := putF (id, so, x, y, t) c.F }) := e2
    clear e1 e2 EN
    unfold vFeature at HQ
    go_enter Try.func44, Try.ntmps44
    go_wp2_with fail
    refine (unhide HQ).mono ?_
    rintro e W' ⟨rfl, hb, hs⟩
    have HR := hide (show Below w.heap.size w W' ∧ (NT.2 = true → Sh w W' s gd b (n + 1) fv NT.1) from ⟨hb, fun e => by rw [unhide E1] at e; rw [unhide E2 e]; exact hs e⟩)
    rw [← unhide E1]
    clear hb hs HQ E1 E2
    go_wp2
    go_ret
    exact ⟨rfl, unhide HR⟩
  by_cases h2 : k = 2
  · subst h2
    obtain ⟨e1, e2⟩ := note_drop c (2, id, x, y, d, t, so) rfl ha
    rw [← unhide EN] at e1 e2
    have HQ := hide (shDrop_any w _ s gd b n fv c id (unhide HS) hf0 hf1)
    have E1 : Hid (NT.2 = hasF id c.F) := e1
    have E2 : Hid (hasF id c.F = true → NT.1 = { c with F := delF id c.F }) := e2
    clear e1 e2 EN
    go_enter Try.func44, Try.ntmps44
    go_wp2_with fail
    refine (unhide HQ).mono ?_
    rintro e W' ⟨rfl, hs⟩
    have HR := hide (show Below w.heap.size w W' ∧ (NT.2 = true → Sh w W' s gd b (n + 1) fv NT.1) from ⟨hs.below, fun e => by rw [unhide E1] at e; rw [unhide E2 e]; exact hs.more⟩)
    rw [← unhide E1]
    clear hs HQ E1 E2
    go_wp2
    go_ret
    exact ⟨rfl, unhide HR⟩
  by_cases h3 : k = 3
  · subst h3
    obtain ⟨e1, e2⟩ := note_move c (3, id, x, y, d, t, so) rfl ha
    rw [← unhide EN] at e1 e2
    have HQ := hide (shMove_any w _ s gd b n fv c id x y (unhide HS) hn hw hh hf0 hf1)
    have E1 : Hid (NT.2 = (hasF id c.F && placeB c.wd c.hg x y)) := e1
    have E2 : Hid ((hasF id c.F && placeB c.wd c.hg x y) = true → NT.1 = { c with F := putF (id, (gF c.F id).2.1, x, y, (gF c.F id).2.2.2.2) c.F }) := e2
    clear e1 e2 EN
    go_enter Try.func44, Try.ntmps44
    go_wp2_with fail
    refine (unhide HQ).mono ?_
    rintro e W' ⟨rfl, hb, hs⟩
    have HR := hide (show Below w.heap.size w W' ∧ (NT.2 = true → Sh w W' s gd b (n + 1) fv NT.1) from ⟨hb, fun e => by rw [unhide E1] at e; rw [unhide E2 e]; exact hs e⟩)
    rw [← unhide E1]
    clear hb hs HQ E1 E2
    go_wp2
    go_ret
    exact ⟨rfl, unhide HR⟩
  by_cases h4 : k = 4
  · subst h4
    obtain ⟨e1, e2⟩ := note_sound c (4, id, x, y, d, t, so) rfl
    rw [← unhide EN] at e1 e2
    have HQ := hide (shSound_any w _ s gd b n fv c x y d (unhide HS) hw hh hl)
    have E1 : Hid (NT.2 = (placeB c.wd c.hg x y && inB d (-1000) 10000)) := e1
    have E2 : Hid ((placeB c.wd c.hg x y && inB d (-1000) 10000) = true → NT.1 = { c with D := c.D.set (y * c.wd + x).toNat d }) := e2
    clear e1 e2 EN
    go_enter Try.func44, Try.ntmps44
    go_wp2_with fail
    refine (unhide HQ).mono ?_
    rintro e W' ⟨rfl, hb, hs⟩
    have HR := hide (show Below w.heap.size w W' ∧ (NT.2 = true → Sh w W' s gd b (n + 1) fv NT.1) from ⟨hb, fun e => by rw [unhide E1] at e; rw [unhide E2 e]; exact (hs e).more⟩)
    rw [← unhide E1]
    clear hb hs HQ E1 E2
    go_wp2
    go_ret
    exact ⟨rfl, unhide HR⟩
  have E1 : Hid (NT.2 = false) := by show _ = _; rw [unhide EN]; exact note_none c _ h1 h2 h3 h4
  have HW := hide (unhide HS).below
  have d1 : (k == 1) = false := by simp; exact h1
  have d2 : (k == 2) = false := by simp; exact h2
  have d3 : (k == 3) = false := by simp; exact h3
  have d4 : (k == 4) = false := by simp; exact h4
  clear EN HS
  go_enter Try.func44, Try.ntmps44
  go_wp2
  go_ret
  exact ⟨ret_bool (unhide E1).symm, unhide HW, fun e => by rw [unhide E1] at e; cases e⟩

end Go.Proofs.Ytmpicamenjnkkaa

/- Where library functions lie in this program: tables of numbers, and one theorem a table; by the kit's own tool. No statement about the program stands here. -/
namespace Go.Proofs
open Go.Shelf
def Ytmpicamenjnkkaa.keysF_ren : Go.Shelf.Ren := ⟨fun | 7 => 87 | 10 => 105 | n => n, fun | 23 => 115 | 26 => 3 | 3 => 91 | 28 => 121 | 0 => 0 | 27 => 120 | 33 => 88 | 4 => 4 | n => n, fun | n => n⟩
theorem Ytmpicamenjnkkaa.keysF : Go.Proofs.SlLaysZI.n7 Try.prog Ytmpicamenjnkkaa.keysF_ren := {
  mixed := by kernel_rfl
  f7 := ⟨Try.f87.name, by decide, Try.func87.trans (congrArg some (by kernel_rfl))⟩
  f10 := ⟨Try.f105.name, by decide, Try.func105.trans (congrArg some (by kernel_rfl))⟩
  t0 := Try.underlying0
  a0 := Try.isAgg0
  z0 := Try.sizeOf0
  v0 := Try.zeroValue0
  t4 := Try.underlying4
  a4 := Try.isAgg4
  z4 := Try.sizeOf4
  v4 := Try.zeroValue4
  t23 := Try.underlying115
  a23 := Try.isAgg115
  z23 := Try.sizeOf115
  v23 := Try.zeroValue115
  t26 := Try.underlying3
  a26 := Try.isAgg3
  z26 := Try.sizeOf3
  v26 := Try.zeroValue3
  t27 := Try.underlying120
  a27 := Try.isAgg120
  z27 := Try.sizeOf120
  v27 := Try.zeroValue120
  t28 := Try.underlying121
  a28 := Try.isAgg121
  z28 := Try.sizeOf121
  v28 := Try.zeroValue121
  t33 := Try.underlying88
  a33 := Try.isAgg88
  z33 := Try.sizeOf88
  v33 := Try.zeroValue88 }
def Ytmpicamenjnkkaa.sortedI_ren : Go.Shelf.Ren := ⟨fun | 6 => 86 | 8 => 103 | 9 => 104 | 11 => 116 | 13 => 93 | 12 => 117 | 23 => 114 | 24 => 115 | 14 => 123 | 15 => 124 | 16 => 125 | 17 => 126 | 18 => 127 | 19 => 128 | 20 => 129 | 21 => 130 | 22 => 131 | 25 => 133 | 26 => 119 | 27 => 120 | 28 => 134 | 29 => 135 | 30 => 94 | 31 => 136 | n => n, fun | 26 => 3 | 28 => 121 | 24 => 24 | 0 => 0 | 3 => 3 | 37 => 126 | 48 => 146 | 50 => 148 | 4 => 4 | 40 => 140 | 39 => 139 | 45 => 41 | 5 => 5 | 9 => 9 | 51 => 151 | 55 => 155 | 57 => 163 | 58 => 164 | 33 => 88 | n => n, fun | n => n⟩
theorem Ytmpicamenjnkkaa.sortedI : Go.Proofs.SlLaysZI.n6 Try.prog Ytmpicamenjnkkaa.sortedI_ren := {
  mixed := by kernel_rfl
  f6 := ⟨Try.f86.name, by decide, Try.func86.trans (congrArg some (by kernel_rfl))⟩
  f8 := ⟨Try.f103.name, by decide, Try.func103.trans (congrArg some (by kernel_rfl))⟩
  f11 := ⟨Try.f116.name, by decide, Try.func116.trans (congrArg some (by kernel_rfl))⟩
  t0 := Try.underlying0
  a0 := Try.isAgg0
  z0 := Try.sizeOf0
  v0 := Try.zeroValue0
  t24 := Try.underlying24
  a24 := Try.isAgg24
  z24 := Try.sizeOf24
  v24 := Try.zeroValue24
  t26 := Try.underlying3
  a26 := Try.isAgg3
  z26 := Try.sizeOf3
  v26 := Try.zeroValue3
  t28 := Try.underlying121
  a28 := Try.isAgg121
  z28 := Try.sizeOf121
  v28 := Try.zeroValue121
  i26 := by kernel_rfl }
def Ytmpicamenjnkkaa.sortI_ren : Go.Shelf.Ren := ⟨fun | 5 => 104 | 8 => 93 | 7 => 117 | 19 => 114 | 20 => 115 | 10 => 123 | 11 => 124 | 12 => 125 | 13 => 126 | 14 => 127 | 15 => 128 | 16 => 129 | 17 => 130 | 18 => 131 | 30 => 133 | 31 => 119 | 32 => 120 | 33 => 134 | 34 => 135 | 35 => 94 | 40 => 136 | n => n, fun | 23 => 24 | 25 => 3 | 3 => 3 | 32 => 126 | 22 => 24 | 0 => 0 | 44 => 146 | 46 => 148 | 4 => 4 | 36 => 140 | 35 => 139 | 41 => 41 | 5 => 5 | 9 => 9 | 53 => 151 | 57 => 155 | 63 => 163 | 64 => 164 | n => n, fun | n => n⟩
theorem Ytmpicamenjnkkaa.sortI : Go.Proofs.SlLaysM.n5 Try.prog Ytmpicamenjnkkaa.sortI_ren := {
  mixed := by kernel_rfl
  f5 := ⟨Try.f104.name, by decide, Try.func104.trans (congrArg some (by kernel_rfl))⟩
  f7 := ⟨Try.f117.name, by decide, Try.func117.trans (congrArg some (by kernel_rfl))⟩
  f8 := Try.func93.trans (congrArg some (by kernel_rfl))
  f10 := ⟨Try.f123.name, by decide, Try.func123.trans (congrArg some (by kernel_rfl))⟩
  f11 := ⟨Try.f124.name, by decide, Try.func124.trans (congrArg some (by kernel_rfl))⟩
  f12 := ⟨Try.f125.name, by decide, Try.func125.trans (congrArg some (by kernel_rfl))⟩
  f13 := ⟨Try.f126.name, by decide, Try.func126.trans (congrArg some (by kernel_rfl))⟩
  f14 := ⟨Try.f127.name, by decide, Try.func127.trans (congrArg some (by kernel_rfl))⟩
  f15 := ⟨Try.f128.name, by decide, Try.func128.trans (congrArg some (by kernel_rfl))⟩
  f16 := ⟨Try.f129.name, by decide, Try.func129.trans (congrArg some (by kernel_rfl))⟩
  f17 := ⟨Try.f130.name, by decide, Try.func130.trans (congrArg some (by kernel_rfl))⟩
  f18 := ⟨Try.f131.name, by decide, Try.func131.trans (congrArg some (by kernel_rfl))⟩
  f19 := Try.func114.trans (congrArg some (by kernel_rfl))
  f20 := Try.func115.trans (congrArg some (by kernel_rfl))
  f30 := ⟨Try.f133.name, by decide, Try.func133.trans (congrArg some (by kernel_rfl))⟩
  f31 := Try.func119.trans (congrArg some (by kernel_rfl))
  f32 := Try.func120.trans (congrArg some (by kernel_rfl))
  f33 := ⟨Try.f134.name, by decide, Try.func134.trans (congrArg some (by kernel_rfl))⟩
  f34 := ⟨Try.f135.name, by decide, Try.func135.trans (congrArg some (by kernel_rfl))⟩
  f35 := ⟨Try.f94.name, by decide, Try.func94.trans (congrArg some (by kernel_rfl))⟩
  f40 := ⟨Try.f136.name, by decide, Try.func136.trans (congrArg some (by kernel_rfl))⟩
  t0 := Try.underlying0
  a0 := Try.isAgg0
  z0 := Try.sizeOf0
  v0 := Try.zeroValue0
  t3 := Try.underlying3
  a3 := Try.isAgg3
  z3 := Try.sizeOf3
  v3 := Try.zeroValue3
  t4 := Try.underlying4
  a4 := Try.isAgg4
  z4 := Try.sizeOf4
  v4 := Try.zeroValue4
  t5 := Try.underlying5
  a5 := Try.isAgg5
  z5 := Try.sizeOf5
  v5 := Try.zeroValue5
  t9 := Try.underlying9
  a9 := Try.isAgg9
  z9 := Try.sizeOf9
  v9 := Try.zeroValue9
  t22 := Try.underlying24
  a22 := Try.isAgg24
  z22 := Try.sizeOf24
  v22 := Try.zeroValue24
  t23 := Try.underlying24
  a23 := Try.isAgg24
  z23 := Try.sizeOf24
  v23 := Try.zeroValue24
  t25 := Try.underlying3
  a25 := Try.isAgg3
  z25 := Try.sizeOf3
  v25 := Try.zeroValue3
  t32 := Try.underlying126
  a32 := Try.isAgg126
  z32 := Try.sizeOf126
  v32 := Try.zeroValue126
  t35 := Try.underlying139
  a35 := Try.isAgg139
  z35 := Try.sizeOf139
  v35 := Try.zeroValue139
  t36 := Try.underlying140
  a36 := Try.isAgg140
  z36 := Try.sizeOf140
  v36 := Try.zeroValue140
  t41 := Try.underlying41
  a41 := Try.isAgg41
  z41 := Try.sizeOf41
  v41 := Try.zeroValue41
  t44 := Try.underlying146
  a44 := Try.isAgg146
  z44 := Try.sizeOf146
  v44 := Try.zeroValue146
  t46 := Try.underlying148
  a46 := Try.isAgg148
  z46 := Try.sizeOf148
  v46 := Try.zeroValue148
  t53 := Try.underlying151
  a53 := Try.isAgg151
  z53 := Try.sizeOf151
  v53 := Try.zeroValue151
  t57 := Try.underlying155
  a57 := Try.isAgg155
  z57 := Try.sizeOf155
  v57 := Try.zeroValue155
  t63 := Try.underlying163
  a63 := Try.isAgg163
  z63 := Try.sizeOf163
  v63 := Try.zeroValue163
  t64 := Try.underlying164
  a64 := Try.isAgg164
  z64 := Try.sizeOf164
  v64 := Try.zeroValue164 }
end Go.Proofs

/- The sorted keys of a map of features; the contract of the sheet's told. -/
namespace Go.Proofs.Ytmpicamenjnkkaa
open Go.RowKit Go.Shelf

theorem sortsI (m : Nat) : AnyZI.SortsIn Try.prog sortedI_ren Fence.wide m :=
  ⟨fun blk off cap ss W hH hblk hsz => callsIn_wide.2 (AnyM.slices_Sort_int sortI blk off cap ss W hH hblk hsz),
   fun p cap W => callsIn_wide.2 (AnyM.slices_Sort_int_none sortI p cap W)⟩

theorem eq_of_perm' {α : Type} {R : α → α → Prop} (hR : ∀ a b, R a b → R b a → a = b) : ∀ {l1 l2 : List α}, l1.Perm l2 → l1.Pairwise R → l2.Pairwise R → l1 = l2
  | [], l2, h, _, _ => (List.nil_perm.1 h).symm
  | a :: t1, [], h, _, _ => by have := h.length_eq; simp at this
  | a :: t1, b :: t2, h, h1, h2 => by
    rw [List.pairwise_cons] at h1 h2
    have hab : a = b := by
      apply Classical.byContradiction
      intro hne
      have ha : a ∈ b :: t2 := h.subset List.mem_cons_self
      have hb : b ∈ a :: t1 := h.symm.subset List.mem_cons_self
      rcases List.mem_cons.1 ha with e | ha
      · exact hne e
      rcases List.mem_cons.1 hb with e | hb
      · exact hne e.symm
      exact hne (hR a b (h1.1 b hb) (h2.1 a ha))
    subst hab
    rw [eq_of_perm' hR (List.Perm.cons_inv h) h1.2 h2.2]

theorem sorted_asc {F : List FeatureT} {ss : List Int} (ha : Asc F) (h : ss.Perm (F.map (·.1))) : ss.mergeSort (fun x y => decide (x ≤ y)) = F.map (·.1) := by
  refine eq_of_perm' (R := fun a b : Int => a ≤ b) (fun a b h1 h2 => by omega) ((List.mergeSort_perm ss _).trans h) ?_ ?_
  · have := List.pairwise_mergeSort (le := fun x y : Int => decide (x ≤ y)) (fun a b c h1 h2 => by simp at *; omega) (fun a b => by simp; omega) ss
    exact this.imp (fun h => of_decide_eq_true h)
  · rw [List.pairwise_map]
    exact ha.imp (fun h => by omega)

set_option maxRecDepth 100000 in
set_option maxHeartbeats 1000000 in
theorem keys_any (b : Nat) (W : World) : Calls Try.prog 87 #[.map (some b)] W fun e w' => e = .returned (.func (.func 105) #[] #[.pointer (some ⟨W.heap.size, 0, none⟩)]) ∧ w' = W.alloc (.cells #[.map (some b)] 115) :=
  callsIn_wide.1 (AnyZI.keys_in keysF Fence.wide 5 trivial rfl (some b) W)

set_option maxRecDepth 100000 in
set_option maxHeartbeats 1000000 in
theorem sorted_any (b n : Nat) (F : List FeatureT) (w : World) (h : MapF w b n F) (ha : Asc F) (hl : F.length ≤ 1000) :
    Calls Try.prog 86 #[.func (.func 105) #[] #[.pointer (some ⟨w.heap.size, 0, none⟩)]] (w.alloc (.cells #[.map (some b)] 115)) fun e w' => ∃ v, e = .returned v ∧ w'.ownsRow (w.heap.size + 1) 3 1 v F.length (ints (F.map (·.1))) ∧ Below (w.heap.size + 1) (w.alloc (.cells #[.map (some b)] 115)) w' := by
  have hbl := h.lt
  have hseq : SeqGives Fence.wide 2 Try.prog 105 #[.pointer (some ⟨w.heap.size, 0, none⟩)] encZ (fun ss => ss.Perm (intKeys (mD F))) (Maps.size (mD F)) (w.alloc (.cells #[.map (some b)] 115)) :=
    AnyZI.keys_gives (ρ := keysF_ren) { keysF with } Fence.wide _ trivial rfl (by omega) w.heap.size b n (mD F) _ (by simp) (by simp) (h.step (Below.alloc1 _ _))
  have cS := AnyZI.sorted_in sortedI Fence.wide 5 trivial trivial trivial trivial rfl (by omega) (sortsI _) (enters_of Try.func104 (by kernel_rfl) rfl) 105 #[.pointer (some ⟨w.heap.size, 0, none⟩)] trivial (enters_of Try.func105 (by kernel_rfl) rfl) _ _ (by rw [mD_size]; unfold maxLen; omega) (by rw [mD_size]; omega) _ hseq
  refine (callsIn_wide.1 cS : Calls Try.prog 86 _ _ _).mono ?_
  rintro e w' ⟨v, ss, rfl, hS, hrow, hnil, hb⟩
  have ek : intKeys (mD F) = F.map (·.1) := by
    unfold mD
    show (F.map mE).map (fun p => Go.intOf p.1) = _
    rw [List.map_map]
    rfl
  rw [ek] at hS
  have hsl : ss.length = F.length := by rw [hS.length_eq]; simp
  rw [sorted_asc ha hS, hsl] at hrow
  have hsz : (w.alloc (.cells #[.map (some b)] 115)).heap.size = w.heap.size + 1 := by simp
  rw [hsz] at hrow hb
  exact ⟨v, rfl, hrow, hb⟩

end Go.Proofs.Ytmpicamenjnkkaa

/- The contract of the program's Shoals. -/
namespace Go.Proofs.Ytmpicamenjnkkaa
open Go.RowKit

theorem own_told0 {A : World} {B : Nat} {ov : Value} {M N : List Int} (h : A.ownsRow B 3 1 ov M.length (ints M)) (e : M = N) : ∃ a n cp, ov = .slice a n cp ∧ OwnSl B A (.slice a n cp) N := by
  subst e
  have ho := (ownsRow_ownSl h).1
  obtain ⟨a, cp, ev, h1, h2, h3⟩ := ho
  subst ev
  exact ⟨a, _, cp, rfl, a, cp, rfl, h1, h2, h3⟩

set_option maxRecDepth 10000 in
set_option maxHeartbeats 4000000 in
theorem implShoals_any (c : Ch) (dao : Option Addr) (dn dc : Nat) (fao : Option Addr) (fn fc : Nat) (need : Int) (w : World) (hD : IntsIn w (.slice dao dn dc) c.D) (hF : RFeature w (.slice fao fn fc) c.F) :
    Calls Try.prog 17 #[vChart c.wd c.hg (.slice dao dn dc) (.slice fao fn fc) c.ed, .int .i64 need] w fun e w' => ∃ a n cp, e = .returned (.slice a n cp) ∧ OwnSl w.heap.size w' (.slice a n cp) (shoalsOf c need) ∧ Below w.heap.size w w' := by
  have A := Below.alloc1 w (.cells #[.int .i64 c.wd, .int .i64 c.hg, .slice dao dn dc, .slice fao fn fc, .int .i64 c.ed] 27)
  have O := ownV_alloc w #[.int .i64 c.wd, .int .i64 c.hg, .slice dao dn dc, .slice fao fn fc, .int .i64 c.ed] 27
  have HC := hide (implChartOk_any c dao dn dc fao fn fc _ (hD.below A) (hF.below A))
  obtain ⟨dao', dc', eD, hdl, hdm, hdc⟩ := hD
  simp only [Value.slice.injEq] at eD
  obtain ⟨rfl, rfl, rfl⟩ := eD
  unfold maxLen at hdm
  have HDC := hide hdc
  have HW := hide A
  have HO := hide O
  obtain ⟨i0, hi, hz0, hz1, hz2⟩ := info_parts Try.infoInt6
  clear A O hF hdc
  cases hok : chartB c with
  | false =>
    have EN : Hid (shoalsOf c need = []) := by show _ = _; rw [shoalsOf, if_neg (by rw [hok]; simp)]
    rw [hok] at HC
    unfold vChart at HC ⊢
    go_enter Try.func17, Try.ntmps17
    go_wp2_with fail
    refine (unhide HC).mono ?_
    rintro e w1 ⟨rfl, hb⟩
    have HW1 := hide (Below.step (unhide HW) hb)
    clear hb HC
    go_wp2
    go_ret
    exact ⟨none, 0, 0, rfl, by rw [unhide EN]; exact ⟨none, 0, rfl, Nat.le_refl _, Nat.zero_le _, fun h => absurd rfl h⟩, unhide HW1⟩
  | true =>
    obtain ⟨hlen5, hlen6⟩ : (c.D.length : Int) = c.wd * c.hg ∧ c.wd * c.hg ≤ 144 := by
      obtain ⟨q0, q1, q2, q3, q4, -⟩ := chartB_head hok
      exact ⟨q4, (mul_le12 q0 q1 q2 q3).2⟩
    have hD144 : c.D.length ≤ 144 := by omega
    have EN : Hid (shTo c.D need c.D.length = shoalsOf c need) := by show _ = _; rw [shoalsOf, if_pos hok]
    clear hlen5 hlen6
    rw [hok] at HC
    unfold vChart at HC ⊢
    go_enter Try.func17, Try.ntmps17
    go_wp2_with fail
    refine (unhide HC).mono ?_
    rintro e w1 ⟨rfl, hb⟩
    have HW1 := hide (Below.step (unhide HW) hb)
    have hO := OwnV.step (unhide HO) hb
    have b2 := hO.cell (i := 2) rfl
    clear hb HC hO HO HW
    have HR0 : Hid (w1.ownsRow w.heap.size 3 1 (.slice none 0 0) (shTo c.D need 0).length (ints (shTo c.D need 0))) := ⟨rfl, Or.inl ⟨rfl, rfl⟩⟩
    go_wp2
    go_loopg [5, 14] c.D.length (fun g ov i wr => ∃ k : Nat, k ≤ c.D.length ∧ g = c.D.length - k ∧ i = .int .i64 k ∧ wr.ownsRow w.heap.size 3 1 ov (shTo c.D need k).length (ints (shTo c.D need k)) ∧ Hid (Below w.heap.size w wr))
    case atStart => exact ⟨0, Nat.zero_le _, rfl, rfl, unhide HR0, HW1⟩
    case round =>
      clear HR0 HW1
      obtain ⟨k, hk, rfl, rfl, hR, HW1⟩ := hrel
      have HR := hide hR
      have hsz := (unhide HW1).size
      clear hR b2
      by_cases hkn : k < c.D.length
      · have hki : (k : Int) < c.D.length := by omega
        obtain ⟨b, o, rfl, hcell⟩ := unhide HDC k hkn
        have EX := hide (shTo_succ c.D need k)
        have hLk := shTo_len c.D need k
        obtain ⟨M, eM⟩ : ∃ M, M = shTo c.D need k := ⟨_, rfl⟩
        rw [← eM] at HR EX hLk
        have g0 := ((unhide HW1).cell (lt_of_cell hcell)).trans hcell
        clear eM hcell
        generalize c.D.getD k 0 = x at *
        by_cases hlt : x < need
        · rw [if_pos hlt] at EX
          have HR2 := hide (ownsRow_below (unhide HR) (Below.alloc1 wr (.cells #[.int .i64 k] 3)))
          go_wp2_with (at_builtin; refine wpList_append_lies _ rfl _ _ 24 rfl w.heap.size 3 i0 _ 1 8 Try.underlying24 hi hz0 hz1 hz2 rfl (by decide) _ M.length _ rfl (unhide HR2) ⟨wr.heap.size, 0, none⟩ 1 1 [.int .i64 k] rfl rfl (cell_one_new _ _ _) (by simp [Value.oneCell']) (by omega) (by unfold maxLen; omega) (by omega) (by simp; omega) _ rfl ?_; intro g4 cap4 wa hown hgrow hat hlt4; have HWa := hide ((((Below.refl w.heap.size wr)).alloc (by omega) (.cells #[.int .i64 k] 3)).grown hgrow (by simp; omega) (fun g hg => ((unhide HR).lt g hg).1)); have HOW := hide hown; clear hown hgrow hat)
          go_roundg (c.D.length - (k + 1))
          case measure => omega
          case rel =>
            refine ⟨k + 1, by omega, rfl, by go_num, ?_, (unhide HW1).trans (unhide HWa)⟩
            rw [unhide EX, show ints (M ++ [(k : Int)]) = ints M ++ [.int .i64 k] by simp [ints], List.length_append]
            exact unhide HOW
        · rw [if_neg hlt] at EX
          go_wp2
          go_roundg (c.D.length - (k + 1))
          case measure => omega
          case rel => exact ⟨k + 1, by omega, rfl, by go_num, by rw [unhide EX]; exact unhide HR, HW1⟩
      · have hkk : k = c.D.length := by omega
        have hki : ¬ (k : Int) < c.D.length := by omega
        obtain ⟨a, n, cp, ev, hO⟩ := own_told0 (unhide HR) (show shTo c.D need k = shoalsOf c need by rw [hkk, unhide EN])
        subst ev
        have HO2 := hide hO
        clear hO HR hkk
        go_wp2
        go_ret
        exact ⟨_, _, _, rfl, unhide HO2, unhide HW1⟩

end Go.Proofs.Ytmpicamenjnkkaa

/- The contract of the sheet's told. -/
namespace Go.Proofs.Ytmpicamenjnkkaa
open Go.RowKit

theorem IntsIn.far {B g o n cp : Nat} {w w' : World} {xs : List Int} (h : IntsIn w (.slice (some ⟨g, o, none⟩) n cp) xs) (hb : Below B w w') (hg : g < B) {r : Nat} (hne : g ≠ r) (i : Nat) (u : Value) : IntsIn (w'.setCell ⟨r, i, none⟩ u) (.slice (some ⟨g, o, none⟩) n cp) xs := by
  obtain ⟨ao, cap, e, h1, h2, h3⟩ := h
  refine ⟨ao, cap, e, h1, h2, fun j hj => ?_⟩
  obtain ⟨b, o', e1, hc⟩ := h3 j hj
  subst e1
  simp only [Value.slice.injEq, Option.some.injEq, Addr.mk.injEq, and_true] at e
  obtain ⟨⟨rfl, rfl⟩, -, -⟩ := e
  refine ⟨_, _, rfl, ?_⟩
  rw [World.cell?_of_block (w := w') (a := ⟨g, o + j, none⟩) (Below.heap_setCell _ _ _ _ (fun e => hne e))]
  exact (hb.cell (B := B) hg).trans hc
theorem OwnV.below' {B g : Nat} {w w' : World} {vs : List Value} (h : OwnV w g vs) (hb : Below B w w') (hg : g < B) : OwnV w' g vs := h.of_block (hb.block g hg)
theorem recCells_snocF (L : List FeatureT) (f0 f1 f2 f3 : Int) (f4 : ByteArray) : recCells 5 eFeature (L ++ [(f0, f1, f2, f3, f4)]) = recCells 5 eFeature L ++ [.int .i64 f0, .int .i64 f1, .int .i64 f2, .int .i64 f3, .string f4] := by
  apply List.ext_getElem?
  intro j
  by_cases h1 : j < L.length * 5
  · rw [List.getElem?_append_left (by rw [recCells_length]; exact h1)]
    have hi : j / 5 < L.length := by omega
    have hr : j % 5 < 5 := by omega
    have e1 := recCells_get (n := 5) (enc := eFeature) (L := L ++ [(f0, f1, f2, f3, f4)]) (i := j / 5) (by simp; omega) hr
    have e2 := recCells_get (n := 5) (enc := eFeature) (L := L) hi hr
    rw [show j / 5 * 5 + j % 5 = j by omega] at e1 e2
    rw [e1, e2, getD_lt (by simp; omega), getD_lt hi, List.getElem_append_left hi]
  · rw [List.getElem?_append_right (by rw [recCells_length]; omega), recCells_length]
    by_cases h2 : j < L.length * 5 + 5
    · obtain ⟨r, er⟩ : ∃ r, j = L.length * 5 + r := ⟨j - L.length * 5, by omega⟩
      have hr : r < 5 := by omega
      subst er
      have e1 := recCells_get (n := 5) (enc := eFeature) (L := L ++ [(f0, f1, f2, f3, f4)]) (i := L.length) (by simp) hr
      rw [e1, getD_lt (by simp), List.getElem_append_right (Nat.le_refl _)]
      have : r = 0 ∨ r = 1 ∨ r = 2 ∨ r = 3 ∨ r = 4 := by omega
      rcases this with rfl | rfl | rfl | rfl | rfl <;> simp [eFeature]
    · rw [List.getElem?_eq_none (by rw [recCells_length]; simp; omega), List.getElem?_eq_none (by simp; omega)]
theorem cell_five_new (w : World) (a b c d e : Value) (t : TypeId) : ∀ j u, [a, b, c, d, e][j]? = some u → (w.alloc (.cells #[a, b, c, d, e] t)).cell? ((⟨w.heap.size, 0, none⟩ : Addr).add j) = some u := fun j u hu => by
  have h := (ownV_alloc w #[a, b, c, d, e] t).cell (i := j) hu
  rw [Go.WideShapes.add_plain, Nat.zero_add]
  exact h
theorem asc_same {F : List FeatureT} (h : Asc F) {f g : FeatureT} (hf : f ∈ F) (hg : g ∈ F) (e : f.1 = g.1) : f = g := by
  obtain ⟨i, hi, rfl⟩ := List.mem_iff_getElem.1 hf
  obtain ⟨j, hj, rfl⟩ := List.mem_iff_getElem.1 hg
  have hp := List.pairwise_iff_getElem.1 h
  rcases Nat.lt_trichotomy i j with hij | rfl | hij
  · have := hp i j hi hj hij; omega
  · rfl
  · have := hp j i hj hi hij; omega
theorem Sh.kept {T : Nat → Prop} {w W W' : World} {s gd b n : Nat} {fv : Value} {c : Ch} (h : Sh w W s gd b n fv c) (hk : Kept T W W') (h1 : ¬ T s) (h2 : ¬ T gd) (h3 : ¬ T b) (hT : ∀ x, T x → w.heap.size ≤ x) : Sh w W' s gd b n fv c :=
  ⟨h.below.trans (hk.below h.below.size hT), h.box.kept hk h1, h.deps.kept hk h2, h.map.kept hk h3, h.ne, h.lo⟩

/-- What is told of the chart that told hands back. -/
def ToldP (w W' : World) (gd : Nat) (fa : Option Addr) (fk : Nat) (c : Ch) : Prop := ∃ B, OwnV W' gd (ints c.D) ∧ W'.ownsRow B 91 5 (.slice fa c.F.length fk) c.F.length (recCells 5 eFeature c.F) ∧ gd < B ∧ w.heap.size ≤ gd ∧ (∃ x, x ≠ gd ∧ w.heap.size ≤ x ∧ x < W'.heap.size) ∧ Below w.heap.size w W'

set_option maxRecDepth 10000 in
set_option maxHeartbeats 8000000 in
theorem shTold_any (w W : World) (s gd b n : Nat) (fao : Option Addr) (fn fc : Nat) (c : Ch) (ed : Int) (h : Sh w W s gd b n (.slice fao fn fc) c) (ha : Asc c.F) (hl : c.F.length ≤ 30) (hI : ∀ f ∈ c.F, -9223372036854775808 ≤ f.1 ∧ f.1 ≤ 9223372036854775807) :
    Calls Try.prog 45 #[.pointer (some ⟨s, 0, none⟩), .int .i64 ed] W fun e W' => ∃ fa fk, e = .returned (vChart c.wd c.hg (.slice (some ⟨gd, 0, none⟩) c.D.length c.D.length) (.slice fa c.F.length fk) ed) ∧ ToldP w W' gd fa fk c := by
  have HS := hide h
  have n0 : ∀ o, (W.alloc o).cell? ⟨s, 0, none⟩ = some (.int .i64 c.wd) := fun o => wcell3 (h.box.cell (i := 0) rfl) (Below.alloc1 W o)
  have n1 : ∀ o, (W.alloc o).cell? ⟨s, 1, none⟩ = some (.int .i64 c.hg) := fun o => wcell3 (h.box.cell (i := 1) rfl) (Below.alloc1 W o)
  have n2 : ∀ o, (W.alloc o).cell? ⟨s, 2, none⟩ = some (.slice (some ⟨gd, 0, none⟩) c.D.length c.D.length) := fun o => wcell3 (h.box.cell (i := 2) rfl) (Below.alloc1 W o)
  have n3 : ∀ o, (W.alloc o).cell? ⟨s, 3, none⟩ = some (.slice fao fn fc) := fun o => wcell3 (h.box.cell (i := 3) rfl) (Below.alloc1 W o)
  have n4 : ∀ o, (W.alloc o).cell? ⟨s, 4, none⟩ = some (.int .i64 c.ed) := fun o => wcell3 (h.box.cell (i := 4) rfl) (Below.alloc1 W o)
  have hge : w.heap.size ≤ W.heap.size := h.below.size
  have hlt : s < W.heap.size ∧ b < W.heap.size ∧ gd < W.heap.size := ⟨h.box.lt, h.map.lt, h.deps.lt⟩
  have HSh := hide (h.step (Below.step (Below.alloc1 W (.cells #[.int .i64 0, .int .i64 0, .slice none 0 0, .slice none 0 0, .int .i64 0] 27)) (Below.alloc1 _ (.cells #[.int .i64 c.wd, .int .i64 c.hg, .slice (some ⟨gd, 0, none⟩) c.D.length c.D.length, .slice none 0 0, .int .i64 ed] 27))))
  have HR := hide ((ownV_alloc W #[.int .i64 0, .int .i64 0, .slice none 0 0, .slice none 0 0, .int .i64 0] 27).alloc (.cells #[.int .i64 c.wd, .int .i64 c.hg, .slice (some ⟨gd, 0, none⟩) c.D.length c.D.length, .slice none 0 0, .int .i64 ed] 27))
  have HC1 := ownV_alloc (W.alloc (.cells #[.int .i64 0, .int .i64 0, .slice none 0 0, .slice none 0 0, .int .i64 0] 27)) #[.int .i64 c.wd, .int .i64 c.hg, .slice (some ⟨gd, 0, none⟩) c.D.length c.D.length, .slice none 0 0, .int .i64 ed] 27
  simp only [World.size_alloc] at HC1
  have HC := hide HC1
  have HAS := hide ha
  have HID := hide hI
  clear h HS HC1 ha hI
  go_enter Try.func45, Try.ntmps45
  go_upto_region 4 with (fail)
  obtain ⟨V, eV⟩ : ∃ z, z = (W.alloc (.cells #[.int .i64 0, .int .i64 0, .slice none 0 0, .slice none 0 0, .int .i64 0] 27)).alloc (.cells #[.int .i64 c.wd, .int .i64 c.hg, .slice (some ⟨gd, 0, none⟩) c.D.length c.D.length, .slice none 0 0, .int .i64 ed] 27) := ⟨_, rfl⟩
  rw [← eV] at HSh HR HC ⊢
  clear eV n0 n1 n2 n3 n4
  have hlr := (unhide HC).lt
  generalize W.heap.size = r at *
  have p5 := (unhide HSh).box.cell (i := 5) rfl
  have HK := hide (keys_any b V)
  have HSo := hide (sorted_any b n c.F V (unhide HSh).map (unhide HAS) (by omega))
  go_wp2_with (go_at_call 87; refine (unhide HK).mono ?_; rintro e w' ⟨rfl, rfl⟩)
  refine (unhide HSo).mono ?_
  rintro e V1 ⟨v, rfl, hrow, hb⟩
  have hb1 : Below V.heap.size V V1 := ((Below.alloc1 V _).trans ⟨hb.os, hb.tape, hb.output, hb.size, fun q hq => hb.block q (by omega)⟩)
  replace HSh := hide ((unhide HSh).step hb1)
  replace HR := hide ((unhide HR).step hb1)
  replace HC := hide ((unhide HC).step hb1)
  obtain ⟨a, n', cp, ev, hO⟩ := own_told0 (M := c.F.map (·.1)) (by rw [List.length_map]; exact hrow) rfl
  subst ev
  have HIn := hide (OwnSl.intsIn hO)
  clear hb hrow HK HSo p5 hb1
  have hn' := ints_len_eq (unhide HIn)
  rw [List.length_map] at hn'
  subst hn'
  have hsz1 := (unhide HSh).below.size
  have hls : s < V1.heap.size ∧ b < V1.heap.size ∧ gd < V1.heap.size := ⟨(unhide HSh).box.lt, (unhide HSh).map.lt, (unhide HSh).deps.lt⟩
  have hlc := (unhide HC).lt
  have hIlt : Hid (∀ i, i < c.F.length → ∃ g o, a = some ⟨g, o, none⟩ ∧ g < V1.heap.size ∧ V.heap.size < g) := fun i hi => by
    obtain ⟨a', cp', e, _, _, h3⟩ := hO
    simp only [Value.slice.injEq] at e
    obtain ⟨rfl, -, rfl⟩ := e
    obtain ⟨g, e1, hg, ho⟩ := h3 (fun e => by have := congrArg List.length e; simp at this; rw [this] at hi; simp at hi)
    exact ⟨g, 0, e1, ho.lt, by omega⟩
  have HR0 : Hid (V1.ownsRow V1.heap.size 91 5 (.slice none 0 0) (c.F.take 0).length (recCells 5 eFeature (c.F.take 0))) := ⟨rfl, Or.inl ⟨rfl, rfl⟩⟩
  obtain ⟨B, eB⟩ : ∃ B, B = V1.heap.size := ⟨_, rfl⟩
  have hBw : B ≤ V1.heap.size := by omega
  rw [← eB] at HR0 hIlt hls hlc hsz1
  clear eB hO
  obtain ⟨i1, hi', hy0, hy1, hy2⟩ := info_parts Try.infoFeature
  go_wp2
  go_loopg [22] c.F.length (fun gm i wr => ∃ k : Nat, k ≤ c.F.length ∧ gm = c.F.length - k ∧ i = .int .i64 k ∧ B ≤ wr.heap.size ∧ ∃ fa fk, wr.ownsRow B 91 5 (.slice fa k fk) k (recCells 5 eFeature (c.F.take k)) ∧ Hid (Sh w wr s gd b n (.slice fao fn fc) c) ∧ Hid (OwnV wr r [.int .i64 0, .int .i64 0, .slice none 0 0, .slice none 0 0, .int .i64 0]) ∧ Hid (OwnV wr (r + 1) [.int .i64 c.wd, .int .i64 c.hg, .slice (some ⟨gd, 0, none⟩) c.D.length c.D.length, .slice fa k fk, .int .i64 ed]) ∧ Hid (IntsIn wr (.slice a c.F.length cp) (c.F.map (·.1))))
  case atStart => exact ⟨0, Nat.zero_le _, rfl, rfl, hBw, none, 0, unhide HR0, HSh, HR, HC, HIn⟩
  case round =>
    clear HR0 HSh HR HC HIn hBw
    obtain ⟨k, hk, rfl, rfl, hBr, fa, fk, hRw, HSh, HR, HC, HIn⟩ := hrel
    have HRw := hide hRw
    clear hRw
    by_cases hkn : k < c.F.length
    · have hki : (k : Int) < c.F.length := by omega
      obtain ⟨ga, oa, rfl, hcell⟩ := intAt (unhide HIn) hkn
      obtain ⟨ga', oa', e', hgaB, hgaV⟩ := unhide hIlt k hkn
      simp only [Option.some.injEq, Addr.mk.injEq, and_true] at e'
      obtain ⟨rfl, rfl⟩ := e'
      obtain ⟨⟨f0, f1, f2, f3, f4⟩, ef⟩ : ∃ f, f = c.F.getD k default := ⟨_, rfl⟩
      have hid : (c.F.map (·.1)).getD k 0 = f0 := by
        rw [getD_lt (by simpa using hkn), List.getElem_map, ← getD_lt (d := default) hkn, ← ef]
      rw [hid] at hcell
      have hmem : (f0, f1, f2, f3, f4) ∈ c.F := by rw [ef, getD_lt hkn]; exact List.getElem_mem _
      obtain ⟨hid0, hid1⟩ := unhide HID _ hmem
      dsimp only at hid0 hid1
      have hfind : 0 ≤ findOf c.F f0 := by
        have := findOf_has f0 c.F
        have h2 : hasF f0 c.F = true := List.any_eq_true.2 ⟨_, hmem, decide_eq_true rfl⟩
        rw [h2] at this
        exact of_decide_eq_true this
      have hgd : c.F.getD (findOf c.F f0).toNat default = (f0, f1, f2, f3, f4) := by
        have h1 := (find_getD f0 c.F hfind).1
        have hb2 := findOf_bd c.F f0
        exact asc_same (unhide HAS) (by rw [getD_lt (by omega)]; exact List.getElem_mem _) hmem h1
      have hget : (Instr.lookup 115 (.map (some b)) (.int .i64 f0) false).run Try.prog wr.drew = .ok (.agg #[.int .i64 f0, .int .i64 f1, .int .i64 f2, .int .i64 f3, .string f4]) wr.drew := by
        have := MapF.get ((unhide HSh).map.drewN 1) f0 hid0 hid1 hfind
        rw [hgd] at this
        exact this
      have ES : Hid (recCells 5 eFeature (c.F.take (k + 1)) = recCells 5 eFeature (c.F.take k) ++ [.int .i64 f0, .int .i64 f1, .int .i64 f2, .int .i64 f3, .string f4]) := by
        show _ = _
        have e : c.F.take (k + 1) = c.F.take k ++ [c.F.getD k default] := by rw [List.take_add_one, List.getElem?_eq_getElem hkn, getD_lt hkn]; rfl
        rw [e, ← ef, recCells_snocF]
      have m5 := (unhide HSh).box.cell (i := 5) rfl
      have c3 := (unhide HC).cell (i := 3) rfl
      have c3a : ∀ o, (wr.alloc o).cell? ⟨r + 1, 3, none⟩ = some (.slice fa k fk) := fun o => wcell3 c3 (Below.alloc1 wr o)
      have c3d : wr.drew.cell? ⟨r + 1, 3, none⟩ = some (.slice fa k fk) := c3
      have m5d : wr.drew.cell? ⟨s, 5, none⟩ = some (.map (some b)) := m5
      clear hid hmem hfind hgd ef
      go_wp2
      go_region_law (first | (refine step_append_lies _ (by rfl) (.tmp 27) (.tmp 34) 25 (by rfl) B 91 i1 _ 5 48 Try.underlying25 hi' hy0 hy1 hy2 rfl (by decide) (.slice fa k fk) k (recCells 5 eFeature (c.F.take k)) (by rfl) ((unhide HRw).alloc _).drew ⟨wr.heap.size, 0, none⟩ 1 1 [.int .i64 f0, .int .i64 f1, .int .i64 f2, .int .i64 f3, .string f4] (by rfl) (by rfl) (cell_five_new _ _ _ _ _ _ _) (by simp [Value.oneCell']) (by omega) (by unfold maxLen; omega) (by omega) (by simp; omega) (wr.heap.size + 1) (by simp) ?_; intro g4 cap4 w2 hown' hgrow hat hlt; have HO3 := hide hown'; have HB3 := hide ((((Below.refl B wr).alloc (by omega) _).drew).grown hgrow (by simp; omega) (fun g hg => ((unhide HRw).lt g hg).1)); have q3 := (unhide HC).below' (unhide HB3) (by omega); have q4 := q3.cell (i := 3) rfl; have q5 := q3.frozen 3; clear hown' hgrow hat))
      all_goals (go_wp2; go_roundg (c.F.length - (k + 1)))
      all_goals first
        | omega
        | (have hB3 := unhide HB3
           have hne : ga ≠ r + 1 := by omega
           have hne2 : r ≠ r + 1 := by omega
           refine ⟨k + 1, by omega, rfl, by go_num, ?_, some ⟨g4, 0, none⟩, cap4, ?_, ?_, ?_, ?_, ?_⟩
           · show B ≤ (w2.setCell _ _).heap.size
             have := hB3.size
             simp [World.setCell]; omega
           · rw [unhide ES]; exact own_set_lt (unhide HO3) hlc 3 _
           · exact ((unhide HSh).kept (T := fun x => B ≤ x) ⟨hB3.os, hB3.tape, hB3.output, hB3.size, fun q hq hn => hB3.block q (by omega)⟩ (by omega) (by omega) (by omega) (fun x hx => Nat.le_trans hsz1 hx)).far (g := r + 1) 3 _ (by omega) (by omega) (by omega) (by omega)
           · exact farN ((unhide HR).below' hB3 (by omega)) hne2 3 _
           · exact q3.set 3 _ (by simp)
           · exact IntsIn.far (unhide HIn) hB3 hgaB hne 3 _)
    · have hkk : k = c.F.length := by omega
      have hki : ¬ (k : Int) < c.F.length := by omega
      rw [hkk, List.take_length] at HRw
      rw [hkk] at HC
      subst hkk
      clear HIn hIlt
      have hn1 : ¬ r + 1 = r := by omega
      have hn2 : ¬ r = r + 1 := by omega
      have hn3 : gd ≠ r := by omega
      have p0 := (unhide HC).cell (i := 0) rfl
      have p1 := (unhide HC).cell (i := 1) rfl
      have p2 := (unhide HC).cell (i := 2) rfl
      have p3 := (unhide HC).cell (i := 3) rfl
      have p4 := (unhide HC).cell (i := 4) rfl
      have d0 := (unhide HR).cell (i := 0) rfl
      have d1 := (unhide HR).cell (i := 1) rfl
      have d2 := (unhide HR).cell (i := 2) rfl
      have d3 := (unhide HR).cell (i := 3) rfl
      have d4 := (unhide HR).cell (i := 4) rfl
      have df := (unhide HR).frozen
      have HR8 := hide ((((((unhide HR).set 0 (.int .i64 c.wd) (by simp)).set 1 (.int .i64 c.hg) (by simp)).set 2 (.slice (some ⟨gd, 0, none⟩) c.D.length c.D.length) (by simp)).set 3 (.slice fa c.F.length fk) (by simp)).set 4 (.int .i64 ed) (by simp))
      have HD8 := hide (farN (farN (farN (farN (farN (unhide HSh).deps hn3 0 (.int .i64 c.wd)) hn3 1 (.int .i64 c.hg)) hn3 2 (.slice (some ⟨gd, 0, none⟩) c.D.length c.D.length)) hn3 3 (.slice fa c.F.length fk)) hn3 4 (.int .i64 ed))
      have HF8 := hide (own_set_lt (own_set_lt (own_set_lt (own_set_lt (own_set_lt (unhide HRw) (b := r) (by omega) 0 (.int .i64 c.wd)) (b := r) (by omega) 1 (.int .i64 c.hg)) (b := r) (by omega) 2 (.slice (some ⟨gd, 0, none⟩) c.D.length c.D.length)) (b := r) (by omega) 3 (.slice fa c.F.length fk)) (b := r) (by omega) 4 (.int .i64 ed))
      have HW8 := hide (Below.setCell (Below.setCell (Below.setCell (Below.setCell (Below.setCell (unhide HSh).below (p := ⟨r, 0, none⟩) hge (.int .i64 c.wd)) (p := ⟨r, 1, none⟩) hge (.int .i64 c.hg)) (p := ⟨r, 2, none⟩) hge (.slice (some ⟨gd, 0, none⟩) c.D.length c.D.length)) (p := ⟨r, 3, none⟩) hge (.slice fa c.F.length fk)) (p := ⟨r, 4, none⟩) hge (.int .i64 ed))
      have hgdl := (unhide HSh).lo.2.1
      clear HR HC HRw HSh
      go_wp2
      have q0 := (unhide HR8).cell (i := 0) rfl
      have q1 := (unhide HR8).cell (i := 1) rfl
      have q2 := (unhide HR8).cell (i := 2) rfl
      have q3 := (unhide HR8).cell (i := 3) rfl
      have q4 := (unhide HR8).cell (i := 4) rfl
      refine bodyPost_ret (v := vChart c.wd c.hg (.slice (some ⟨gd, 0, none⟩) c.D.length c.D.length) (.slice fa c.F.length fk) ed) (by simp [results, Try.results45, go_sem, vChart, q0, q1, q2, q3, q4]) rfl ⟨fa, fk, rfl, B, unhide HD8, unhide HF8, by omega, hgdl, ⟨r, fun e => hn3 e.symm, hge, (unhide HR8).lt⟩, unhide HW8⟩

end Go.Proofs.Ytmpicamenjnkkaa
