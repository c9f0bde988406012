/- The contract of the program's Turns. -/
import Derived.Test.YtliodmahbdmcbaaSgT3
import Derived.Maps.AppendAt
namespace Go.Proofs.Ytliodmahbdmcbaa
open Go.RowKit Go.Shelf

attribute [local go_sem] Oper.semAt_some

theorem ownsRow_keptT {T : Nat → Prop} {w w' : World} {base n size : Nat} {e : TypeId} {v : Value} {xs : List Value} (h : w.ownsRow base e size v n xs) (hk : Kept T w w') (hT : ∀ k, base ≤ k → ¬ T k) : w'.ownsRow base e size v n xs := by
  obtain ⟨h1, h2⟩ := h
  refine ⟨h1, ?_⟩
  rcases h2 with h2 | ⟨g, cap, cur, hv, hg, hh, r⟩
  · exact Or.inl h2
  · obtain ⟨hlt, _⟩ := Array.getElem?_eq_some_iff.1 hh
    exact Or.inr ⟨g, cap, cur, hv, hg, (hk.block g hlt (hT g hg)).trans hh, r⟩

/-- What Turns holds between two rounds: its list in block N, what was told in a row of its own from N + 11 on, the list for turning. -/
structure TuI (N : Nat) (w : World) (lv : Value) (pre : List Int) (A : World) : Prop where
  row : ∃ v, Boxed A N 24 v ∧ A.ownsRow (N + 11) 3 1 v pre.length (ints pre)
  list : Boxed A (N + 1) 24 lv
  below : Below N w A

theorem TuI.kept {N : Nat} {w : World} {lv : Value} {pre : List Int} {A B : World} {T : Nat → Prop} (h : TuI N w lv pre A) (hN : N = w.heap.size) (hk : Kept T A B) (hT : ∀ k, T k → N + 2 ≤ k ∧ k < N + 11) : TuI N w lv pre B := by
  obtain ⟨v, hv, hr⟩ := h.row
  refine ⟨⟨v, (hk.block N hv.lt (fun e => by have := hT _ e; omega)).trans hv, ownsRow_keptT hr hk (fun k h1 h2 => by have := hT _ h2; omega)⟩, (hk.block (N + 1) h.list.lt (fun e => by have := hT _ e; omega)).trans h.list, ?_⟩
  exact h.below.trans (hk.below (by have := h.below.size; omega) (fun k e => by have := hT _ e; omega))

set_option maxRecDepth 100000 in
set_option maxHeartbeats 2000000 in
theorem implTurns_any (v : Value) (L : List Int) (w : World) (h : IntsIn w v L) :
    Calls Try.prog 21 #[v] w fun e w' => ∃ ao n cap, e = .returned (.slice ao n cap) ∧ OwnSl w.heap.size w' (.slice ao n cap) (turnsOf L) ∧ Below w.heap.size w w' := by
  have HV := hide h
  obtain ⟨ao, cap, rfl, hl, hm, hc⟩ := h
  clear hc hl hm
  obtain ⟨i0, hi, hz0, hz1, hz2⟩ := info_parts Try.info3
  refine (callsIn_wide (n := 12)).1 ?_
  refine callsIn_of_wp_marks Try.func21 rfl trivial ?_ rfl
  simp only [Try.ntmps21, List.size_toArray, List.length_cons, List.length_nil, Nat.reduceAdd, Nat.reduceSub, Array.replicate_succ, Array.replicate_zero, List.push_toArray, List.append_toArray, List.nil_append, List.cons_append]
  gi_wp2_with (refine ⟨trivial, ?_⟩; gi_at_call 47; refine (turning_any _ _ _ _ Fence.wide _ trivial rfl).mono ?_; rintro e w9 ⟨rfl, rfl⟩)
  have HS : Hid (TuI w.heap.size w (.slice ao L.length cap) [] ((w.alloc (.cells #[.slice none 0 0] 24)).alloc (.cells #[.slice ao L.length cap] 24))) := by
    refine ⟨⟨_, (Boxed.new w _ _).alloc _, World.ownsRow_nil _ _ _ _⟩, ?_, Below.step (Below.alloc1 _ _) (Below.alloc1 _ _)⟩
    have h := Boxed.new (w.alloc (.cells #[.slice none 0 0] 24)) 24 (.slice ao L.length cap)
    simp only [World.size_alloc] at h
    exact h
  obtain ⟨w2, e2⟩ : ∃ x, x = (w.alloc (.cells #[.slice none 0 0] 24)).alloc (.cells #[.slice ao L.length cap] 24) := ⟨_, rfl⟩
  rw [← e2] at HS ⊢
  have HH : Hid (w2.heap.size = w.heap.size + 2) := by show _ = _; rw [e2]; simp
  clear e2
  refine rangeFunc_all (F := Fence.wide) rfl (by omega) (gf := 69) (lb := #[.pointer (some ⟨w.heap.size + 1, 0, none⟩)]) rfl trivial (enters_of Try.func69 (by kernel_rfl) rfl)
    (fun x : Int => #[.int .i64 x]) (fun xs => xs = turnsOf L) (fun xs => xs.length ≤ 201) (w.heap.size + 11) (fun _ => rfl)
    (fun A B => (∀ k, w.heap.size + 4 ≤ k → k < w.heap.size + 11 → k < A.heap.size → B.heap[k]? = A.heap[k]?) ∧ A.heap.size ≤ B.heap.size) (fun h1 h2 => ⟨fun k a b c => (h2.1 k a b (by omega)).trans (h1.1 k a b c), by omega⟩) (fun A B hk => ⟨fun k a b c => hk.block k c (by have := unhide HH; omega), hk.size⟩)
    (fun pre A => TuI w.heap.size w (.slice ao L.length cap) pre A)
    (fun s A B hs hk => hs.kept rfl hk (fun k e => by have := unhide HH; omega))
    (unhide HS)
    (fun x => { tmps := #[.slice ao L.length cap, undef, .slice none 0 0, .pointer (some ⟨w.heap.size, 0, none⟩), .int .i64 x, .slice ao L.length cap, .func (.func 69) #[] #[.pointer (some ⟨w.heap.size + 1, 0, none⟩)], .int .i64 x, undef, undef, undef, undef, undef], defers := [] })
    ?call ?assign ?body ?done
  case call =>
    intro J' W1 hJI hJT hsz hY' h0'
    have hh := unhide HH
    refine (turning1_in (12 - 1) (by omega) (w2.heap.size + 1) (w.heap.size + 1) ao L.length cap L J' W1 (fun pre A hA => ⟨(hJI _ _ hA).list.cell, (unhide HV).below (hJI _ _ hA).below⟩) (fun pre A B hA hk => ?_) (fun pre x A hA hlo hok _ _ => ?_) h0').mono ?_
    · exact hJT _ _ _ hA ((hJI _ _ hA).kept rfl hk (fun k e => by omega)) (hk.mono (fun k _ e => by omega))
    · obtain ⟨fn, tmps, assign, body, hy, hRd⟩ := hY' pre x A hA (by omega) hok
      refine ⟨fn, tmps, assign, body, hy, hRd.mono ?_⟩
      rintro e A' ⟨rfl, h, hk⟩
      exact ⟨rfl, h, fun k a b => hk.1 k (by omega) (by omega) (by omega), hk.2⟩
    · rintro e A' ⟨hv, h⟩
      exact ⟨hv, _, rfl, h⟩
  case assign =>
    intro l' x A K hK
    gi_wp2
    exact hK
  case body =>
    rintro l' pre x A hI hlo hsz hok
    obtain ⟨v, hv, hrow⟩ := hI.row
    have hc := hv.cell
    have hlen : pre.length ≤ 200 := by simp at hok; omega
    have HI := hide hI
    have HV1 := hide hv
    have HRW := hide hrow
    clear hI hv hrow hok hsz
    gi_wp2_with (gi_at_builtin; refine wpListIn_append_own _ rfl _ _ 24 rfl (w.heap.size + 11) 3 i0 (.int .i64 0) 1 8 Try.underlying24 hi hz0 hz1 hz2 rfl (by decide) _ _ _ rfl ((unhide HRW).alloc _) ⟨A.heap.size, 0, none⟩ 1 1 [.int .i64 x] rfl rfl (cell_one_new _ _ _) (by simp [Value.oneCell']) (by unfold maxLen; omega) (by omega) (by simp; omega) ?_; intro v' w1 hown' hgrow _; obtain ⟨g', cap', rfl⟩ := ownsRow_succ hown'; have hv1 : Boxed w1 w.heap.size 24 v := ((unhide HV1).alloc _).kept hgrow ((unhide HV1).not_row (by decide) (unhide HRW)); have hc1 := hv1.cell; have hf1 := hv1.frozen)
    have hN2 := unhide HH
    have hob : ∀ g, v.ownBlock = some g → w.heap.size + 11 ≤ g := fun g hg => ((unhide HRW).lt g hg).1
    have same : ∀ k, k < A.heap.size → k ≠ w.heap.size → k < w.heap.size + 11 → (w1.setCell ⟨w.heap.size, 0, none⟩ (.slice (some ⟨g', 0, none⟩) (pre.length + 1) cap')).heap[k]? = A.heap[k]? := fun k h1 h2 h3 =>
      (Below.heap_setCell _ _ _ k (fun e => h2 e)).trans ((hgrow.block k (by simp; omega) (fun e => by have := hob k e.symm; omega)).trans (Below.heap_alloc _ _ _ h1))
    have hz : A.heap.size ≤ (w1.setCell ⟨w.heap.size, 0, none⟩ (.slice (some ⟨g', 0, none⟩) (pre.length + 1) cap')).heap.size := by have := hgrow.size; simp at this; simp [World.setCell]; omega
    refine ⟨⟨⟨_, hv1.set _, ?_⟩, (same _ (unhide HI).list.lt (by omega) (by omega)).trans (unhide HI).list, ?_⟩, ⟨fun k h1 h2 h3 => same k h3 (by omega) h2, hz⟩, same _ (by omega) (by omega) (by omega), same _ (by omega) (by omega) (by omega)⟩
    · have := ownsRow_keptT hown' ((Kept.refl (fun k => k = w.heap.size) w1).setCell (p := ⟨w.heap.size, 0, none⟩) rfl (.slice (some ⟨g', 0, none⟩) (pre.length + 1) cap')) (fun k h e => by omega)
      simpa [ints] using this
    · have hb0 : Below w.heap.size A (A.alloc (.cells #[.int .i64 x] 3)) := (Below.refl _ _).alloc (by omega) _
      exact (unhide HI).below.trans ((hb0.grown hgrow (by simp; omega) (fun g hg => by have := hob g hg; omega)).setCell (p := ⟨w.heap.size, 0, none⟩) (Nat.le_refl _) _)
  case done =>
    rintro xs A rfl hI hsz hK
    obtain ⟨v, hv, hrow⟩ := hI.row
    have hN2 := unhide HH
    have hI2 := hI.kept rfl (kept_putObj A (l := w2.heap.size) (.deferred none)) (fun k e => by omega)
    obtain ⟨hsl, a', c', rfl⟩ := ownsRow_ownSl (ownsRow_keptT hrow (kept_putObj A (l := w2.heap.size) (.deferred none)) (fun k h e => by omega))
    have hc := hv.cell
    have HSL := hide (hsl.mono (show w.heap.size ≤ w.heap.size + 11 by omega))
    have HI2 := hide hI2.below
    clear hI hrow hv hsl hI2 hN2
    gi_wp2
    refine ⟨by simp, .inl ⟨_, _, rfl, run_takeDeferred hK, ?_⟩⟩
    exact ⟨_, results_tmp rfl _ _ _, _, _, _, rfl, unhide HSL, unhide HI2⟩

end Go.Proofs.Ytliodmahbdmcbaa
