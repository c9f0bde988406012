/- A builder of the library's in memory: WriteByte, WriteString, String. Written by wip/mkedn.py. -/
import Derived.Test.YtjpogaidcmndoaaEdM
import Derived.Test.YtjpogaidcmndoaaShBld
import Derived.Lib.Builder
import Derived.Lib.UnsafeStr
namespace Go.Proofs.Ytjpogaidcmndoaa
open Go.RowKit

abbrev bdP (b : Nat) : Value := .pointer (some ⟨b, 0, none⟩)
def cy (X : List Int) : List Value := X.map (Value.int .u8)
/-- A builder in the block b that has the bytes X, written or not. -/
def BdI (B b : Nat) (X : List Int) (w : World) : Prop := Lib.IsBuilder 83 5 B b (cy X) w
/-- Blocks of other kinds stand. -/
def Oth (b : Nat) (w w' : World) : Prop := ∀ k c t fr, k ≠ b → t ≠ 5 → w.heap[k]? = some (.cells c t fr) → w'.heap[k]? = some (.cells c t fr)
theorem Oth.refl (b : Nat) (w : World) : Oth b w w := fun _ _ _ _ _ _ h => h
theorem Oth.trans {b : Nat} {w1 w2 w3 : World} (h1 : Oth b w1 w2) (h2 : Oth b w2 w3) : Oth b w1 w3 := fun k c t fr h3 h4 h5 => h2 k c t fr h3 h4 (h1 k c t fr h3 h4 h5)
theorem Oth.setCell {b j : Nat} {w w' : World} (h : Oth b w w') (v : Value) : Oth b w (w'.setCell ⟨b, j, none⟩ v) := fun k c t fr h3 h4 h5 => by
  rw [Below.heap_setCell _ _ _ _ (fun e => h3 (by simpa using e))]
  exact h k c t fr h3 h4 h5
theorem bdI_new (w : World) : BdI w.heap.size w.heap.size [] (w.alloc (.cells #[.pointer none, .slice none 0 0] 83)) := Lib.fresh_isBuilder _ _ _
theorem infoBd : ∃ j, Try.prog.info? 83 = some j ∧ j.size = 2 := Option.map_eq_some_iff.1 (by kernel_rfl : (Try.prog.info? 83).map (·.size) = some 2)
theorem liesBd : liesAt Try.prog Try.prog.depth 83 (2 / Try.prog.cellsOf 83) 0 83 1 = true := by kernel_rfl

set_option maxHeartbeats 1000000 in
set_option maxRecDepth 100000 in
theorem ccUsed_any (b : Nat) (w : World) (h0 : w.cell? ⟨b, 0, none⟩ = some (bdP b)) :
    Calls Try.prog 78 #[bdP b] w fun e w' => e = .returned (.tuple #[]) ∧ w' = w := by
  obtain ⟨j, hj, _⟩ := infoBd
  go_enter Try.func78, Try.ntmps78
  go_wp2
  rw [Lib.run_neq_ptr_same w _ Try.underlying81 hj]
  go_wp2
  go_end0
  exact ⟨rfl, rfl⟩

set_option maxHeartbeats 1000000 in
set_option maxRecDepth 100000 in
theorem ccFresh_any (b : Nat) (w : World) (h0 : w.cell? ⟨b, 0, none⟩ = some (.pointer none)) (hsh : w.shape? b = some (83, 2)) (hfz : w.frozen? ⟨b, 0, none⟩ = false) :
    Calls Try.prog 78 #[bdP b] w fun e w' => e = .returned (.tuple #[]) ∧ w' = w.setCell ⟨b, 0, none⟩ (bdP b) := by
  obtain ⟨j, hj, hjs⟩ := infoBd
  go_enter Try.func78, Try.ntmps78
  go_wp2
  rw [Lib.run_to_unsafe w ⟨b, 0, none⟩ Try.underlying81 Try.underlying107 hj (by rw [hjs]; decide) hsh (Nat.zero_lt_succ 1)]
  simp only [Result.andThen]
  rw [Oper.upon_value]
  go_wp2
  rw [run_callFunc_extern Try.func85 (by kernel_rfl) (by kernel_rfl) (by kernel_rfl) (e := Extern.AbiNoEscape.same) (by kernel_rfl)]
  rw [Lib.run_noEscape]
  simp only [Result.andThen]
  rw [Oper.upon_value]
  go_wp2
  rw [Lib.run_from_unsafe w ⟨b, 0, none⟩ Try.underlying107 Try.underlying81 hj hsh liesBd]
  simp only [Result.andThen]
  rw [Oper.upon_value]
  go_wp2
  go_end0
  exact ⟨rfl, rfl⟩

/-- copyCheck: behind it the builder is used. -/
theorem cc_any (B b : Nat) (X : List Int) (w : World) (h : BdI B b X w) :
    Calls Try.prog 78 #[bdP b] w fun e w' => e = .returned (.tuple #[]) ∧ Lib.BuilderAt 83 5 B b (bdP b) (cy X) w' ∧ Below B w w' ∧ Oth b w w' := by
  rcases h with h | h
  · refine (ccFresh_any b w h.cell0 h.shape h.frozen0).mono ?_
    rintro e w' ⟨rfl, rfl⟩
    exact ⟨rfl, h.used _, (Below.refl B w).setCell (p := ⟨b, 0, none⟩) h.1 _, (Oth.refl b w).setCell _⟩
  · refine (ccUsed_any b w h.cell0).mono ?_
    rintro e w' ⟨rfl, rfl⟩
    exact ⟨rfl, h, Below.refl B _, Oth.refl b _⟩

set_option maxHeartbeats 2000000 in
set_option maxRecDepth 100000 in
theorem wByte_any (B b : Nat) (X : List Int) (c : Int) (w : World) (h : BdI B b X w) (hlen : X.length + 1 ≤ 1048576) (hBw : B ≤ w.heap.size) :
    Calls Try.prog 56 #[bdP b, .int .u8 c] w fun e w' => e = .returned .nilIface ∧ BdI B b (X ++ [c]) w' ∧ Below B w w' ∧ Oth b w w' := by
  obtain ⟨i0, hinf, hzz⟩ := Option.map_eq_some_iff.1 Try.infoU8Y
  simp only [Prod.mk.injEq] at hzz
  obtain ⟨hz0, hz1, hz2⟩ := hzz
  have hlX : (cy X).length = X.length := List.length_map _
  go_enter Try.func56, Try.ntmps56
  go_wp2_with (go_at_call 78; refine (cc_any B b X _ h).mono ?_)
  rintro e w1 ⟨rfl, h1, hb1, ho1⟩
  obtain ⟨hB, v, hbk, hown, hne⟩ := h1
  have c0 : w1.cell? ⟨b, 0, none⟩ = some (bdP b) := by rw [Lib.cell_of_heap hbk]; rfl
  have c1 : w1.cell? ⟨b, 1, none⟩ = some v := by rw [Lib.cell_of_heap hbk]; rfl
  have hws := hb1.size
  go_wp2_with (at_builtin; refine wpList_append_own _ rfl _ _ 22 rfl B 5 i0 (.int .u8 0) 1 1 Try.underlying22 hinf hz0 hz1 hz2 rfl (by decide) _ _ _ rfl (hown.alloc _) ⟨w1.heap.size, 0, none⟩ 1 1 [.int .u8 c] rfl rfl ?c1 ?c2 ?c3 ?c4 ?c5 ?_)
  case c1 =>
    intro j u hj
    match j, hj with
    | 0, hj => simp at hj; subst hj; simp [Addr.add]
  case c2 => intro u hu; simp at hu; subst hu; rfl
  case c3 => unfold maxLen; omega
  case c4 => omega
  case c5 => simp; omega
  intro v' w2 hown' hgrow hat
  have hlt : b < w1.heap.size := by
    rcases Nat.lt_or_ge b w1.heap.size with h' | h'
    · exact h'
    · simp [Array.getElem?_eq_none h'] at hbk
  have hkeep : ∀ k o, k < w1.heap.size → (¬ some k = v.ownBlock) → w1.heap[k]? = some o → w2.heap[k]? = some o := fun k o hk hn ho => by
    rw [hgrow.block k (by simp; omega) hn, Lib.alloc_old w1 _ k hk]
    exact ho
  have hb2 := hkeep b _ hlt (fun e => hne e.symm) hbk
  have d0 : w2.cell? ⟨b, 0, none⟩ = some (bdP b) := by rw [Lib.cell_of_heap hb2]; rfl
  have d1 : w2.cell? ⟨b, 1, none⟩ = some v := by rw [Lib.cell_of_heap hb2]; rfl
  have f1 : w2.frozen? ⟨b, 1, none⟩ = false := Lib.frozen_of_heap hb2 1
  have hkY : ∀ k, v.ownBlock = some k → ∀ c t fr, w1.heap[k]? = some (.cells c t fr) → t = 5 := by
    intro k hk c t fr hc
    rcases hown.2 with ⟨hv, _⟩ | ⟨g, cap, cur, hv, _, hg, _⟩
    · rw [hv] at hk; cases hk
    · rw [hv] at hk
      simp only [Value.ownBlock, Option.some.injEq] at hk
      rw [← hk] at hc
      rw [hg] at hc
      simp only [Option.some.injEq, Obj.cells.injEq] at hc
      exact hc.2.1.symm
  have HOT : Hid (Oth b w (w2.setCell ⟨b, 1, none⟩ v')) := by
    refine (ho1.trans fun k c t fr h3 h4 h5 => ?_ : Oth b w w2).setCell _
    have hkl : k < w1.heap.size := by
      rcases Nat.lt_or_ge k w1.heap.size with h' | h'
      · exact h'
      · simp [Array.getElem?_eq_none h'] at h5
    exact hkeep k _ hkl (fun e => h4 (hkY k e.symm c t fr h5)) h5
  obtain ⟨ao, n', cap, rfl⟩ : ∃ ao n' cap, v' = .slice ao n' cap := by
    rcases hown'.2 with ⟨hv, _⟩ | ⟨g, cap, cur, hv, _⟩
    · exact ⟨_, _, _, hv⟩
    · exact ⟨_, _, _, hv⟩
  have HFIN : Hid (Lib.BuilderAt 83 5 B b (bdP b) (cy (X ++ [c])) (w2.setCell ⟨b, 1, none⟩ (.slice ao n' cap))) := by
    have e9 : cy (X ++ [c]) = cy X ++ [.int .u8 c] := by unfold cy; rw [List.map_append]; rfl
    show Lib.BuilderAt _ _ _ _ _ _ _
    rw [e9]
    exact Lib.BuilderAt.put (T := 83) (e := 5) hB hb2 (bs' := cy X ++ [.int .u8 c]) (by simpa [hlX] using hown') (by decide)
  have HBL : Hid (Below B w (w2.setCell ⟨b, 1, none⟩ (.slice ao n' cap))) := ((hb1.alloc (by omega) _).grown hgrow (by simp; omega) (fun k hk => (hown.lt k hk).1)).setCell (p := ⟨b, 1, none⟩) hB _
  clear hkY hkeep hown hown' hgrow hat hbk hb2 hb1 ho1 h
  go_wp2
  go_ret
  exact ⟨rfl, Or.inr (unhide HFIN), unhide HBL, unhide HOT⟩

set_option maxHeartbeats 2000000 in
set_option maxRecDepth 100000 in
theorem wStr_any (B b : Nat) (X : List Int) (s : ByteArray) (w : World) (h : BdI B b X w) (hlen : X.length + s.size ≤ 1048576) (hBw : B ≤ w.heap.size) :
    Calls Try.prog 54 #[bdP b, .string s] w fun e w' => e = .returned (.tuple #[.int .i64 s.size, .nilIface]) ∧ BdI B b (X ++ bts s) w' ∧ Below B w w' ∧ Oth b w w' := by
  obtain ⟨i0, hinf, hzz⟩ := Option.map_eq_some_iff.1 Try.infoU8Y
  simp only [Prod.mk.injEq] at hzz
  obtain ⟨hz0, hz1, hz2⟩ := hzz
  have hlX : (cy X).length = X.length := List.length_map _
  go_enter Try.func54, Try.ntmps54
  go_wp2_with (go_at_call 78; refine (cc_any B b X _ h).mono ?_)
  rintro e w1 ⟨rfl, h1, hb1, ho1⟩
  obtain ⟨hB, v, hbk, hown, hne⟩ := h1
  have c0 : w1.cell? ⟨b, 0, none⟩ = some (bdP b) := by rw [Lib.cell_of_heap hbk]; rfl
  have c1 : w1.cell? ⟨b, 1, none⟩ = some v := by rw [Lib.cell_of_heap hbk]; rfl
  have hws := hb1.size
  go_wp2_with (at_builtin; refine Lib.wpList_append_own_string _ rfl _ _ 22 9 rfl B 5 i0 Try.underlying22 Try.underlying9 hinf hz0 hz1 hz2 _ _ _ rfl hown s rfl ?c3 ?c4 ?c5 ?_)
  case c3 => unfold maxLen; omega
  case c4 => omega
  case c5 => omega
  intro v' w2 hown' hgrow hat
  have hlt : b < w1.heap.size := by
    rcases Nat.lt_or_ge b w1.heap.size with h' | h'
    · exact h'
    · simp [Array.getElem?_eq_none h'] at hbk
  have hkeep : ∀ k o, k < w1.heap.size → (¬ some k = v.ownBlock) → w1.heap[k]? = some o → w2.heap[k]? = some o := fun k o hk hn ho => by
    rw [hgrow.block k hk hn]
    exact ho
  have hb2 := hkeep b _ hlt (fun e => hne e.symm) hbk
  have d0 : w2.cell? ⟨b, 0, none⟩ = some (bdP b) := by rw [Lib.cell_of_heap hb2]; rfl
  have d1 : w2.cell? ⟨b, 1, none⟩ = some v := by rw [Lib.cell_of_heap hb2]; rfl
  have f1 : w2.frozen? ⟨b, 1, none⟩ = false := Lib.frozen_of_heap hb2 1
  have hkY : ∀ k, v.ownBlock = some k → ∀ c t fr, w1.heap[k]? = some (.cells c t fr) → t = 5 := by
    intro k hk c t fr hc
    rcases hown.2 with ⟨hv, _⟩ | ⟨g, cap, cur, hv, _, hg, _⟩
    · rw [hv] at hk; cases hk
    · rw [hv] at hk
      simp only [Value.ownBlock, Option.some.injEq] at hk
      rw [← hk] at hc
      rw [hg] at hc
      simp only [Option.some.injEq, Obj.cells.injEq] at hc
      exact hc.2.1.symm
  have HOT : Hid (Oth b w (w2.setCell ⟨b, 1, none⟩ v')) := by
    refine (ho1.trans fun k c t fr h3 h4 h5 => ?_ : Oth b w w2).setCell _
    have hkl : k < w1.heap.size := by
      rcases Nat.lt_or_ge k w1.heap.size with h' | h'
      · exact h'
      · simp [Array.getElem?_eq_none h'] at h5
    exact hkeep k _ hkl (fun e => h4 (hkY k e.symm c t fr h5)) h5
  obtain ⟨ao, n', cap, rfl⟩ : ∃ ao n' cap, v' = .slice ao n' cap := by
    rcases hown'.2 with ⟨hv, _⟩ | ⟨g, cap, cur, hv, _⟩
    · exact ⟨_, _, _, hv⟩
    · exact ⟨_, _, _, hv⟩
  have HFIN : Hid (Lib.BuilderAt 83 5 B b (bdP b) (cy (X ++ bts s)) (w2.setCell ⟨b, 1, none⟩ (.slice ao n' cap))) := by
    have e9 : cy (X ++ bts s) = cy X ++ Lib.strCells s := by unfold cy; rw [List.map_append, strCells_bts]
    show Lib.BuilderAt _ _ _ _ _ _ _
    rw [e9]
    exact Lib.BuilderAt.put (T := 83) (e := 5) hB hb2 (bs' := cy X ++ Lib.strCells s) (by simpa [hlX, Lib.strCells_length] using hown') (by decide)
  have HBL : Hid (Below B w (w2.setCell ⟨b, 1, none⟩ (.slice ao n' cap))) := (hb1.grown hgrow (by omega) (fun k hk => (hown.lt k hk).1)).setCell (p := ⟨b, 1, none⟩) hB _
  clear hkY hkeep hown hown' hgrow hat hbk hb2 hb1 ho1 h
  go_wp2
  go_ret2
  exact ⟨rfl, Or.inr (unhide HFIN), unhide HBL, unhide HOT⟩

/-- Numbers as bytes. -/
def u8s (X : List Int) : List UInt8 := X.map fun n => UInt8.ofNat n.toNat
theorem cy_u8s (X : List Int) (hX : ∀ x, x ∈ X → 0 ≤ x ∧ x < 256) : cy X = Lib.byteCells (u8s X) := by
  unfold cy Lib.byteCells u8s
  rw [List.map_map]
  refine List.map_congr_left fun x hx => ?_
  obtain ⟨h1, h2⟩ := hX x hx
  have e : (UInt8.ofNat x.toNat).toNat = x.toNat := by
    rw [UInt8.toNat_ofNat']
    omega
  show Value.int .u8 x = Value.int .u8 ((UInt8.ofNat x.toNat).toNat : Int)
  rw [e]
  congr 1
  omega
theorem bdString_any (B b : Nat) (X : List Int) (w : World) (h : BdI B b X w) (hX : ∀ x, x ∈ X → 0 ≤ x ∧ x < 256) (hBw : B ≤ w.heap.size) :
    Calls Try.prog 57 #[bdP b] w fun e w' => e = .returned (.string (Go.strOfNums X)) ∧ Below B w w' := by
  have X9 : Go.Proofs.Builder.Extra Try.prog Go.Proofs.Ytjpogaidcmndoaa.l169_ren := {
    sizeBuilder := by kernel_rfl
    liesBuilder := by kernel_rfl
    t5 := Try.underlying5
    a5 := Try.isAgg5
    z5 := Try.sizeOf5
    v5 := Try.zeroValue5
    infoByte := by kernel_rfl
    cellsByte := by kernel_rfl
    sizeByte := by kernel_rfl
    neB5 := by decide }
  have h2 : Lib.IsBuilder 83 5 B b (Lib.byteCells (u8s X)) w := by
    rw [← cy_u8s X hX]
    exact h
  exact Any.Builder_String_any Go.Proofs.Ytjpogaidcmndoaa.l169 X9 B b (u8s X) w h2 hBw

end Go.Proofs.Ytjpogaidcmndoaa
