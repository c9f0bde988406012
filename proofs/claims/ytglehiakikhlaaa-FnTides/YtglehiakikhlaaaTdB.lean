/- Contracts of the specification's UnderKeel and HighLow. -/
import Derived.Test.YtglehiakikhlaaaTdA
import Derived.Test.YtglehiakikhlaaaOwnInts
namespace Go.Proofs.Ytglehiakikhlaaa
open Go.RowKit

attribute [local go_sem] run_store_float

def geF (x y : Nat) : Bool := FloatKind.f64.format.order x y == some .gt || FloatKind.f64.format.order x y == some .eq
theorem geF_same {x x' y y' : Nat} (h : fsame .f64 x x') (h' : fsame .f64 y y') : geF x y = geF x' y' := by unfold geF; rw [order_same h h']
def keelAt (d q l x : Nat) : Bool := geF (fop .sub .f64 (fop .sub .f64 x d) q) l
def keelOf (xs : List Nat) (d q l : Nat) : List Bool := if xs.length ≤ 1500 then xs.map (keelAt d q l) else []
theorem keelOf_len (xs : List Nat) (d q l : Nat) : (keelOf xs d q l).length ≤ 1500 := by
  unfold keelOf
  split
  · simpa
  · simp

/-- A row of one cell an element that grows. -/
structure GrowC {α : Type} (E : α → Value) (T : TypeId) (w A : World) (v : Value) (M : List α) : Prop where
  row : A.ownsRow w.heap.size T 1 v M.length (M.map E)
  below : Below w.heap.size w A
  fv : ∃ g c, v = .slice (some ⟨g, 0, none⟩) M.length c

theorem growC_new {α : Type} (E : α → Value) (T : TypeId) (w A : World) (h : Below w.heap.size w A) : GrowC E T w (A.alloc (.cells #[] T)) (.slice (some ⟨A.heap.size, 0, none⟩) 0 0) ([] : List α) :=
  ⟨⟨rfl, Or.inr ⟨A.heap.size, 0, #[], rfl, h.size, Go.Deep.blk_alloc_new _ _, Nat.le_refl _, Nat.zero_le _, rfl, rfl⟩⟩, Below.step h (Below.alloc1 _ _), ⟨_, _, rfl⟩⟩
theorem GrowC.done {α : Type} {E : α → Value} {T : TypeId} {w A : World} {v : Value} {M : List α} (h : GrowC E T w A v M) : OwnC E w.heap.size A v M := ownsRow_ownC h.row rfl
theorem GrowC.step {α : Type} {E : α → Value} {T : TypeId} {w A B : World} {v : Value} {M : List α} (h : GrowC E T w A v M) (hb : Below A.heap.size A B) : GrowC E T w B v M := ⟨ownsRow_below h.row hb, Below.step h.below hb, h.fv⟩
theorem GrowC.next {α : Type} {E : α → Value} {T : TypeId} {w B : World} {g cap : Nat} {M : List α} {x : α} {u : Value} (hu : u = E x)
    (ho : B.ownsRow w.heap.size T 1 (.slice (some ⟨g, 0, none⟩) (M.length + 1) cap) (M.length + 1) (M.map E ++ [u])) (hb : Below w.heap.size w B) : GrowC E T w B (.slice (some ⟨g, 0, none⟩) (M.length + 1) cap) (M ++ [x]) := by
  subst hu
  refine ⟨?_, hb, ⟨g, cap, by simp⟩⟩
  rw [List.map_append, List.length_append]
  exact ho

theorem Try.infoBool : (Try.prog.info? 4).map (fun i => (i.zero, i.size, i.bytes)) = some (some (.bool false), 1, 1) := by kernel_rfl
theorem Try.infoInt : (Try.prog.info? 3).map (fun i => (i.zero, i.size, i.bytes)) = some (some (.int .i64 0), 1, 8) := by kernel_rfl

set_option maxRecDepth 10000 in
set_option maxHeartbeats 4000000 in
theorem specUnderKeel_any (v : Value) (xs : List Nat) (d q l : Nat) (w : World) (h : FlIn w v xs) :
    Calls Try.prog 40 #[v, .float .f64 d, .float .f64 q, .float .f64 l] w fun e w' => ∃ a n cp, e = .returned (.slice a n cp) ∧ OwnBo w.heap.size w' (.slice a n cp) (keelOf xs d q l) ∧ Below w.heap.size w w' := by
  obtain ⟨ao, cap, rfl, hl, hm, hc⟩ := h
  unfold maxLen at hm
  have HC := hide hc
  clear hc
  have HG0 := hide (growC_new Value.bool 4 w w (Below.refl _ _))
  obtain ⟨i0, hi, hz0, hz1, hz2⟩ := info_parts Try.infoBool
  by_cases h1500 : xs.length ≤ 1500
  · have HD : Hid (keelOf xs d q l = xs.map (keelAt d q l)) := by show _ = _; rw [keelOf, if_pos h1500]
    have h15 : (xs.length : Int) ≤ 1500 := by omega
    go_enter Try.func40, Try.ntmps40
    go_wp2
    go_loopg [9, 10] xs.length (fun g ov i wr => ∃ k : Nat, k ≤ xs.length ∧ g = xs.length - k ∧ i = .int .i64 k ∧ GrowC Value.bool 4 w wr ov ((xs.take k).map (keelAt d q l)))
    case atStart => exact ⟨0, Nat.zero_le _, rfl, rfl, unhide HG0⟩
    case round =>
      obtain ⟨k, hk, rfl, rfl, hG⟩ := hrel
      obtain ⟨g, c, rfl⟩ := hG.fv
      have HG := hide hG
      have hsz := hG.below.size
      clear hG HG0
      have hlk : ((xs.take k).map (keelAt d q l)).length = k := by simp; omega
      by_cases hkn : k < xs.length
      · obtain ⟨b, o, rfl, hcell⟩ := unhide HC k hkn
        have g0 := ((unhide HG).below.cell (lt_of_cell hcell)).trans hcell
        have EX := hide (take_snoc xs hkn)
        rw [show xs.getD k default = xs.getD k 0 from rfl] at EX
        have hki : (k : Int) < xs.length := by omega
        clear hcell
        generalize xs.getD k 0 = x at *
        obtain ⟨M, eM⟩ : ∃ z, z = (xs.take k).map (keelAt d q l) := ⟨_, rfl⟩
        rw [← eM] at HG hlk ⊢
        have EM := hide eM
        clear eM
        rw [hlk]
        have HLK := hide hlk
        have HR1 := hide fun n (r : Bool) => ownsRow_below (ownsRow_below (unhide HG).row (below_drewN (Below.refl _ wr) n)) (Below.alloc1 (wr.drewN n) (.cells #[.bool r] 4))
        rw [hlk] at HR1
        clear hlk
        go_wp2_with (first | (refine wpList_float rfl .sub _ _ _ _ rfl rfl .f64 x d rfl rfl ?_; intro r1 n1 hr1) | (refine wpList_float rfl .sub _ _ _ _ rfl rfl .f64 _ q rfl rfl ?_; intro r n hr) | (at_builtin; refine wpList_append_lies _ rfl _ _ 30 rfl w.heap.size 4 i0 _ 1 1 Try.underlying30 hi hz0 hz1 hz2 rfl (by decide) _ k _ rfl (unhide HR1 (n1 + n) _) ⟨wr.heap.size, 0, none⟩ 1 1 [_] rfl rfl (cell_one_new _ _ _) (by simp [Value.oneCell']) (by omega) (by unfold maxLen; omega) (by omega) (by simp; omega) _ rfl ?_; intro g1 cap1 wa hown hgrow hat hlt; have HWa := hide (((below_drewN (unhide HG).below (n1 + n)).alloc (by simp; omega) _).grown hgrow (by simp; omega) (fun g hg => ((unhide HG).row.lt g hg).1)); have HOW := hide hown; clear hown hgrow hat))
        go_roundg (xs.length - (k + 1))
        case measure => omega
        case rel =>
          have e : keelAt d q l x = geF r l := by unfold keelAt; exact (geF_same (fop_to hr hr1 (fsame.refl _ _)) (fsame.refl _ _)).symm
          refine ⟨k + 1, by omega, rfl, by go_num, ?_⟩
          rw [unhide EX, List.map_append, ← unhide EM]
          have hk1 := unhide HLK
          subst hk1
          exact GrowC.next (x := keelAt d q l x) (by rw [e]; rfl) (unhide HOW) (unhide HWa)
      · have hkk : k = xs.length := by omega
        subst hkk
        have HO := hide (unhide HG).done
        rw [hlk] at HO ⊢
        rw [List.take_length, ← unhide HD] at HO
        have HB := hide (unhide HG).below
        clear HG
        go_wp2
        go_ret
        exact ⟨_, _, _, rfl, unhide HO, unhide HB⟩
  · have HD : Hid (keelOf xs d q l = []) := by show _ = _; rw [keelOf, if_neg h1500]
    have h15 : (1500 : Int) < xs.length := by omega
    have HO := hide (unhide HG0).done
    have HB := hide (unhide HG0).below
    clear HG0
    go_enter Try.func40, Try.ntmps40
    go_wp2
    go_loopg [9, 10] 0 (fun _ ov i wr => wr = w.alloc (.cells #[] 4) ∧ i = .int .i64 0 ∧ ov = .slice (some ⟨w.heap.size, 0, none⟩) 0 0)
    case atStart => exact ⟨rfl, rfl, rfl⟩
    case round =>
      obtain ⟨rfl, rfl, rfl⟩ := hrel
      go_wp2
      go_ret
      exact ⟨_, _, _, rfl, by rw [unhide HD]; exact unhide HO, unhide HB⟩

end Go.Proofs.Ytglehiakikhlaaa
