/- What turning hands back, over whatever body that never says 'no more' and leaves turning's own blocks as they lay. -/
import Derived.Test.YtliodmahbdmcbaaSgT2
namespace Go.Proofs.Ytliodmahbdmcbaa
open Go.RowKit Go.Shelf

attribute [local go_sem] Oper.semAt_some

theorem boxed_same {W W' : World} {B : Nat} {t : TypeId} {v : Value} (h : Boxed W B t v) (e : W'.heap[B]? = W.heap[B]?) : Boxed W' B t v := e.trans h

/-- turning's own blocks from N on: yield, seen, ahead, waits, the list for moving. -/
structure TBox (N l : Nat) (lv : Value) (s : TSt) (A : World) : Prop where
  y : Boxed A N 86 (.func (.yield l) #[] #[])
  seen : Boxed A (N + 1) 3 (.int .i64 s.seen)
  ahead : Boxed A (N + 1 + 1) 3 (.int .i64 s.ahead)
  waits : Boxed A (N + 1 + 1 + 1) 3 (.int .i64 s.waits)
  list : Boxed A (N + 1 + 1 + 1 + 1) 24 lv

theorem TBox.same {N l : Nat} {lv : Value} {s : TSt} {A B : World} (h : TBox N l lv s A) (e : ∀ k, N ≤ k → k < N + 5 → B.heap[k]? = A.heap[k]?) : TBox N l lv s B :=
  ⟨boxed_same h.y (e _ (by omega) (by omega)), boxed_same h.seen (e _ (by omega) (by omega)), boxed_same h.ahead (e _ (by omega) (by omega)), boxed_same h.waits (e _ (by omega) (by omega)), boxed_same h.list (e _ (by omega) (by omega))⟩

theorem TBox.lt {N l : Nat} {lv : Value} {s : TSt} {A : World} (h : TBox N l lv s A) : N + 4 < A.heap.size := h.list.lt

theorem TBox.kept {N l : Nat} {lv : Value} {s : TSt} {T : Nat → Prop} {A B : World} (h : TBox N l lv s A) (hk : Kept T A B) (hT : ∀ k, N ≤ k → k < N + 5 → ¬ T k) : TBox N l lv s B :=
  h.same (fun k h1 h2 => hk.block k (by have := h.lt; omega) (hT k h1 h2))

/-- The three stores behind a number. -/
theorem TBox.next {N l : Nat} {lv : Value} {s : TSt} {A : World} (h : TBox N l lv s A) (x : Int) :
    TBox N l lv (s.step x) (((A.setCell ⟨N + 1 + 1, 0, none⟩ (.int .i64 s.waits)).setCell ⟨N + 1 + 1 + 1, 0, none⟩ (.int .i64 x)).setCell ⟨N + 1, 0, none⟩ (.int .i64 ((s.seen : Int) + 1))) := by
  have e : ((s.step x).seen : Int) = (s.seen : Int) + 1 := by simp [TSt.step]
  refine ⟨?_, ?_, ?_, ?_, ?_⟩
  · exact Boxed.other (Boxed.other (Boxed.other h.y (by omega) _) (by omega) _) (by omega) _
  · rw [e]; exact Boxed.set _ (Boxed.other (Boxed.other h.seen (by omega) _) (by omega) _)
  · exact Boxed.other (Boxed.other (Boxed.set _ h.ahead) (by omega) _) (by omega) _
  · exact Boxed.other (Boxed.set _ (Boxed.other h.waits (by omega) _)) (by omega) _
  · exact Boxed.other (Boxed.other (Boxed.other h.list (by omega) _) (by omega) _) (by omega) _

theorem kept_next {N : Nat} (A : World) (a b c : Value) : Kept (fun k => N ≤ k ∧ k < N + 5) A (((A.setCell ⟨N + 1 + 1, 0, none⟩ a).setCell ⟨N + 1 + 1 + 1, 0, none⟩ b).setCell ⟨N + 1, 0, none⟩ c) :=
  (((Kept.refl _ A).setCell (p := ⟨N + 1 + 1, 0, none⟩) ⟨by simp; omega, by simp⟩ _).setCell (p := ⟨N + 1 + 1 + 1, 0, none⟩) ⟨by simp; omega, by simp⟩ _).setCell (p := ⟨N + 1, 0, none⟩) ⟨by simp, by simp⟩ _

theorem tbox_start (W : World) (l : Nat) (lv : Value) : TBox W.heap.size l lv (tSt []) (((((W.alloc (.cells #[.func (.yield l) #[] #[]] 86)).alloc (.cells #[.int .i64 0] 3)).alloc (.cells #[.int .i64 0] 3)).alloc (.cells #[.int .i64 0] 3)).alloc (.cells #[lv] 24)) := by
  refine ⟨?_, ?_, ?_, ?_, ?_⟩
  · exact ((((Boxed.new W _ _).alloc _).alloc _).alloc _).alloc _
  · have h := (((Boxed.new (W.alloc (.cells #[.func (.yield l) #[] #[]] 86)) 3 (.int .i64 0)).alloc (.cells #[.int .i64 0] 3)).alloc (.cells #[.int .i64 0] 3)).alloc (.cells #[lv] 24)
    simp only [World.size_alloc] at h
    exact h
  · have h := ((Boxed.new ((W.alloc (.cells #[.func (.yield l) #[] #[]] 86)).alloc (.cells #[.int .i64 0] 3)) 3 (.int .i64 0)).alloc (.cells #[.int .i64 0] 3)).alloc (.cells #[lv] 24)
    simp only [World.size_alloc] at h
    exact h
  · have h := (Boxed.new (((W.alloc (.cells #[.func (.yield l) #[] #[]] 86)).alloc (.cells #[.int .i64 0] 3)).alloc (.cells #[.int .i64 0] 3)) 3 (.int .i64 0)).alloc (.cells #[lv] 24)
    simp only [World.size_alloc] at h
    exact h
  · have h := Boxed.new ((((W.alloc (.cells #[.func (.yield l) #[] #[]] 86)).alloc (.cells #[.int .i64 0] 3)).alloc (.cells #[.int .i64 0] 3)).alloc (.cells #[.int .i64 0] 3)) 24 lv
    simp only [World.size_alloc] at h
    exact h

set_option maxRecDepth 100000 in
set_option maxHeartbeats 2000000 in
theorem turning1_in (n : Nat) (hn : 6 ≤ n) (l Bt : Nat) (ao : Option Addr) (m cap : Nat) (L : List Int) (J : List Int → World → Prop) (W : World)
    (hR : ∀ pre A, J pre A → A.cell? ⟨Bt, 0, none⟩ = some (.slice ao m cap) ∧ IntsIn A (.slice ao m cap) L)
    (hT : ∀ pre A B, J pre A → Kept (fun k => W.heap.size ≤ k ∧ k < W.heap.size + 7) A B → J pre B)
    (hY : ∀ pre x A, J pre A → W.heap.size + 7 ≤ A.heap.size → (pre ++ [x]).length ≤ 201 → (∀ y ∈ pre ++ [x], y ∈ L) → lvOk L = true → YieldAt Fence.wide (n - 1) Try.prog l #[.int .i64 x] A fun e A' => e = .returned (.bool true) ∧ J (pre ++ [x]) A' ∧ (∀ k, W.heap.size ≤ k → k < W.heap.size + 7 → A'.heap[k]? = A.heap[k]?) ∧ A.heap.size ≤ A'.heap.size)
    (h0 : J [] W) :
    CallsIn Fence.wide n Try.prog 69 #[.func (.yield l) #[] #[], .pointer (some ⟨Bt, 0, none⟩)] W fun e W' => (∃ v, e = .returned v) ∧ J (turnsOf L) W' := by
  have h1 : 1 ≤ n := by omega
  have J1 : J [] (W.alloc (.cells #[.func (.yield l) #[] #[]] 86)) := hT _ _ _ h0 (kept_of_below (Below.alloc1 _ _))
  have J4 : J [] ((((W.alloc (.cells #[.func (.yield l) #[] #[]] 86)).alloc (.cells #[.int .i64 0] 3)).alloc (.cells #[.int .i64 0] 3)).alloc (.cells #[.int .i64 0] 3)) :=
    hT _ _ _ J1 (kept_of_below (Below.step (Below.step (Below.alloc1 _ _) (Below.alloc1 _ _)) (Below.alloc1 _ _)))
  have J5 : J [] (((((W.alloc (.cells #[.func (.yield l) #[] #[]] 86)).alloc (.cells #[.int .i64 0] 3)).alloc (.cells #[.int .i64 0] 3)).alloc (.cells #[.int .i64 0] 3)).alloc (.cells #[.slice ao m cap] 24)) :=
    hT _ _ _ J4 (kept_of_below (Below.alloc1 _ _))
  obtain ⟨hb1, hin1⟩ := hR _ _ J1
  obtain ⟨hb4, _⟩ := hR _ _ J4
  have HR := hide hR
  have HT := hide hT
  have HY := hide hY
  have HJ1 := hide J1
  have HJ5 := hide J5
  have HLV := hide (levelsOk_any _ L _ hin1)
  clear hR hT hY h0 hin1 J1 J4 J5
  cases hok : lvOk L with
  | false =>
    have HF : Hid (turnsOf L = []) := by show _ = _; simp [turnsOf, hok]
    rw [hok] at HLV
    clear hok
    refine callsIn_of_wp_marks Try.func69 rfl trivial ?_ rfl
    simp only [Try.ntmps69, List.size_toArray, List.length_cons, List.length_nil, Nat.reduceAdd, Nat.reduceSub, Array.replicate_succ, Array.replicate_zero, List.push_toArray, List.append_toArray, List.nil_append, List.cons_append]
    gi_wp2_with (refine ⟨trivial, ?_⟩; gi_at_call 70; refine (callsIn_wide.2 (unhide HLV)).mono ?_; rintro e w9 ⟨rfl, rfl⟩)
    exact ⟨_, results_none rfl _ _ _, ⟨_, rfl⟩, by rw [unhide HF]; exact unhide HJ1⟩
  | true =>
    have HF : Hid (turnsOf L = tOut (tSt (mvTo L L.length))) := by show _ = _; simp [turnsOf, hok]
    have hlen : L.length ≤ 200 := by simp only [lvOk, Bool.and_eq_true, decide_eq_true_eq] at hok; exact hok.1
    rw [hok] at HLV
    replace HY := hide (fun pre x A a b c d => unhide HY pre x A a b c d hok)
    clear hok
    refine callsIn_of_wp_marks Try.func69 rfl trivial ?_ rfl
    simp only [Try.ntmps69, List.size_toArray, List.length_cons, List.length_nil, Nat.reduceAdd, Nat.reduceSub, Array.replicate_succ, Array.replicate_zero, List.push_toArray, List.append_toArray, List.nil_append, List.cons_append]
    gi_wp2_with (first | (refine ⟨trivial, ?_⟩; gi_at_call 70; refine (callsIn_wide.2 (unhide HLV)).mono ?_; rintro e w9 ⟨rfl, rfl⟩) | (refine ⟨trivial, ?_⟩; gi_at_call 71; refine (moving_any _ _ _ _ Fence.wide _ trivial rfl).mono ?_; rintro e w9 ⟨rfl, rfl⟩))
    have HB5 := hide (tbox_start W l (.slice ao m cap))
    obtain ⟨W5, e5⟩ : ∃ x, x = (((((W.alloc (.cells #[.func (.yield l) #[] #[]] 86)).alloc (.cells #[.int .i64 0] 3)).alloc (.cells #[.int .i64 0] 3)).alloc (.cells #[.int .i64 0] 3)).alloc (.cells #[.slice ao m cap] 24)) := ⟨_, rfl⟩
    rw [← e5] at HB5 HJ5 ⊢
    have h5 : W5.heap.size = W.heap.size + 5 := by rw [e5]; simp
    clear e5 hb1 hb4 HJ1
    have HH5 := hide h5
    clear h5
    refine rangeFunc_all (F := Fence.wide) rfl h1 (gf := 76) (lb := #[.pointer (some ⟨W.heap.size + 1 + 1 + 1 + 1, 0, none⟩)]) rfl trivial (enters_of Try.func76 (by kernel_rfl) rfl)
      (fun x : Int => #[.int .i64 x]) (fun xs => xs = mvTo L L.length) (fun xs => xs.length ≤ L.length ∧ ∀ y ∈ xs, y ∈ L) 0 (fun _ => rfl) (fun _ _ => True) (fun _ _ => trivial) (fun _ _ _ => trivial)
      (fun pre A => TBox W.heap.size l (.slice ao m cap) (tSt pre) A ∧ J (tSt pre).out A)
      (fun s A B hs hk => ⟨hs.1.kept hk (fun k h1 h2 e => by have := unhide HH5; omega), unhide HT _ _ _ hs.2 (hk.mono (fun k _ e => by have := unhide HH5; omega))⟩)
      ⟨unhide HB5, unhide HJ5⟩
      (fun x => { tmps := #[.func (.yield l) #[] #[], .pointer (some ⟨Bt, 0, none⟩), .pointer (some ⟨W.heap.size, 0, none⟩), .pointer (some ⟨W.heap.size + 1, 0, none⟩), .pointer (some ⟨W.heap.size + 1 + 1, 0, none⟩), .pointer (some ⟨W.heap.size + 1 + 1 + 1, 0, none⟩), .int .i64 x, undef, .slice ao m cap, .bool true, .bool false, .slice ao m cap, .func (.func 76) #[] #[.pointer (some ⟨W.heap.size + 1 + 1 + 1 + 1, 0, none⟩)], .int .i64 x, undef, undef, undef, undef, undef, undef, undef, undef, undef, undef, undef, undef, undef, undef, undef, undef, undef, undef, undef, undef, undef, undef, undef, undef, undef, undef, undef, undef, undef, undef, undef], defers := [] })
      ?call ?assign ?body ?done
    case call =>
      intro J' W1 hJI hJT hsz hY' h0'
      refine (moving1_in Fence.wide (n - 1) trivial rfl (by omega) (W5.heap.size + 1) (W.heap.size + 1 + 1 + 1 + 1) ao m cap L J' (fun pre A hA => ⟨(hJI _ _ hA).1.list.cell, (unhide HR _ _ (hJI _ _ hA).2).2⟩) (fun pre x A hA hl hmem => ?_) W1 h0').mono ?_
      · obtain ⟨fn, tmps, assign, body, hy, hRd⟩ := hY' pre x A hA (Nat.zero_le _) ⟨hl, hmem⟩
        refine ⟨fn, tmps, assign, body, hy, hRd.mono ?_⟩
        rintro e A' ⟨rfl, h, _⟩
        exact ⟨rfl, h⟩
      · rintro e A' ⟨hv, h⟩
        exact ⟨hv, _, rfl, h⟩
    case assign =>
      intro l' x A K hK
      gi_wp2
      exact hK
    case body =>
      rintro l' pre x A ⟨hB, hJ⟩ _ hsz ⟨hlen', hmem'⟩
      have hmp : ∀ y ∈ pre, y ∈ L := fun y hy => hmem' y (List.mem_append.2 (Or.inl hy))
      have HMO : Hid (∀ y ∈ (tSt pre).out, y ∈ L) := fun y hy => hmp y ((tSt_mem pre).1 y hy)
      have HMW : Hid (0 < (tSt pre).seen → (tSt pre).waits ∈ L) := fun h => hmp _ ((tSt_mem pre).2 h)
      clear hmem' hmp
      have hseen := tSt_seen pre
      have hse : (tSt pre).seen ≤ 200 := by simp at hlen'; omega
      have HYA : Hid (0 < (tSt pre).seen → _) := fun h => unhide HY _ (tSt pre).waits A hJ (by have := unhide HH5; omega) (by simp at hlen' ⊢; omega) (snoc_mem (unhide HMO) (unhide HMW h))
      clear HMO HMW
      have ES := hide (tSt_snoc pre x)
      obtain ⟨⟨se, ah, wa, out⟩, es⟩ : ∃ s, s = tSt pre := ⟨_, rfl⟩
      rw [← es] at hB hJ hse HYA ES
      clear es hseen hlen'
      dsimp only at hJ hse HYA
      have c1 := hB.seen.cell
      have c2 := hB.ahead.cell
      have c3 := hB.waits.cell
      have c4 := hB.y.cell
      have f1 := hB.seen.frozen
      have f2 := hB.ahead.frozen
      have f3 := hB.waits.frozen
      dsimp only at c1 c2 c3
      have HB := hide hB
      have HJ := hide hJ
      clear hB hJ
      have FIN : Hid (∀ (a3 : Act) (A' : World), TBox W.heap.size l (.slice ao m cap) ⟨se, ah, wa, out⟩ A' → J (TSt.step ⟨se, ah, wa, out⟩ x).out A' → (∀ k, W.heap.size ≤ k → k < W.heap.size + 7 → A'.heap[k]? = A.heap[k]?) → A.heap.size ≤ A'.heap.size →
          allPost W5.heap.size (fun _ _ => True) (fun pre A => TBox W.heap.size l (.slice ao m cap) (tSt pre) A ∧ J (tSt pre).out A) (pre ++ [x]) A .normal a3 (((A'.setCell ⟨W.heap.size + 1 + 1, 0, none⟩ (.int .i64 wa)).setCell ⟨W.heap.size + 1 + 1 + 1, 0, none⟩ (.int .i64 x)).setCell ⟨W.heap.size + 1, 0, none⟩ (.int .i64 ((se : Int) + 1)))) := by
        intro a3 A' h1 h2 h3 h4
        have hkn := kept_next (N := W.heap.size) A' (.int .i64 wa) (.int .i64 x) (.int .i64 ((se : Int) + 1))
        have h55 := unhide HH5
        refine ⟨⟨?_, ?_⟩, trivial, ?_, ?_⟩
        · rw [unhide ES]; exact h1.next x
        · rw [unhide ES]; exact unhide HT _ _ _ h2 (hkn.mono (fun k _ e => by omega))
        · exact (hkn.block _ (by omega) (by omega)).trans (h3 _ (by omega) (by omega))
        · exact (hkn.block _ (by omega) (by omega)).trans (h3 _ (by omega) (by omega))
      have w1 : IntKind.i64.wrap ((se : Int) + 1) = (se : Int) + 1 := by rw [IntKind.wrap_i64]; omega
      have TU : Hid ((TSt.step ⟨se, ah, wa, out⟩ x).out = if turnB ⟨se, ah, wa, out⟩ x = true then out ++ [wa] else out) := hide rfl
      clear ES
      cases htu : turnB ⟨se, ah, wa, out⟩ x with
      | true =>
        rw [htu, if_pos rfl] at TU
        obtain ⟨fn, tmps, assign, body, hy, hRd⟩ := unhide HYA (by have ht := htu; simp only [turnB, Bool.or_eq_true, Bool.and_eq_true, decide_eq_true_eq] at ht; rcases ht with ht | ht <;> omega)
        have HRd := hide hRd
        clear hRd HYA
        simp only [turnB, Bool.or_eq_true, Bool.and_eq_true, decide_eq_true_eq] at htu
        have AFTER : Hid (∀ A' : World, J (out ++ [wa]) A' → (∀ k, W.heap.size ≤ k → k < W.heap.size + 7 → A'.heap[k]? = A.heap[k]?) → TBox W.heap.size l (.slice ao m cap) ⟨se, ah, wa, out⟩ A') := fun A' _ h => (unhide HB).same (fun k h1 h2 => h k h1 (by omega))
        have key : se = 1 ∨ (1 < se ∧ ah < wa ∧ ¬ wa < x) ∨ (1 < se ∧ ¬ ah < wa ∧ wa < x) := by
          rcases htu with h | ⟨h, h2⟩
          · exact Or.inl h
          · by_cases ha : ah < wa <;> by_cases hx : wa < x <;> simp [ha, hx] at h2
            · exact Or.inr (Or.inl ⟨h, ha, hx⟩)
            · exact Or.inr (Or.inr ⟨h, ha, hx⟩)
        clear htu
        have hn1 : 1 ≤ n - 1 - 1 := by omega
        have PASS : Hid (∀ A' : World, J (out ++ [wa]) A' → (∀ k, W.heap.size ≤ k → k < W.heap.size + 7 → A'.heap[k]? = A.heap[k]?) → A.heap.size ≤ A'.heap.size → TBox W.heap.size l (.slice ao m cap) ⟨se, ah, wa, out⟩ A' ∧ ∀ a3, allPost W5.heap.size (fun _ _ => True) (fun pre A => TBox W.heap.size l (.slice ao m cap) (tSt pre) A ∧ J (tSt pre).out A) (pre ++ [x]) A .normal a3 (((A'.setCell ⟨W.heap.size + 1 + 1, 0, none⟩ (.int .i64 wa)).setCell ⟨W.heap.size + 1 + 1 + 1, 0, none⟩ (.int .i64 x)).setCell ⟨W.heap.size + 1, 0, none⟩ (.int .i64 ((se : Int) + 1)))) :=
          fun A' h1 h2 h3 => ⟨unhide AFTER A' h1 h2, fun a3 => unhide FIN a3 A' (unhide AFTER A' h1 h2) (by rw [unhide TU]; exact h1) h2 h3⟩
        clear AFTER FIN TU HB HJ
        rcases key with h | ⟨h, ha, hx⟩ | ⟨h, ha, hx⟩
        · have e1 : ((se : Int) == 1) = true := by rw [beq_iff_eq]; omega
          clear h
          gi_wp2
          refine (roundIn_wide (unhide HRd)).mono ?_
          rintro e A' ⟨rfl, hJ', hk, hz⟩
          obtain ⟨hB', hfin⟩ := unhide PASS A' hJ' hk hz
          have HFIN := hide hfin
          have c1' := hB'.seen.cell
          have c3' := hB'.waits.cell
          have g1 := hB'.seen.frozen
          have g2 := hB'.ahead.frozen
          have g3 := hB'.waits.frozen
          have g4 := hB'.ahead.cell
          dsimp only at c1' c3' g4
          clear hB' hfin hJ' hk c1 c2 c3 c4 f1 f2 f3
          gi_wp2
          exact unhide HFIN _
        · have e1 : ((se : Int) == 1) = false := by rw [beq_eq_false_iff_ne]; omega
          have e2 : (1 : Int) < se := by omega
          clear h
          gi_wp2
          refine (roundIn_wide (unhide HRd)).mono ?_
          rintro e A' ⟨rfl, hJ', hk, hz⟩
          obtain ⟨hB', hfin⟩ := unhide PASS A' hJ' hk hz
          have HFIN := hide hfin
          have c1' := hB'.seen.cell
          have c3' := hB'.waits.cell
          have g1 := hB'.seen.frozen
          have g2 := hB'.ahead.frozen
          have g3 := hB'.waits.frozen
          have g4 := hB'.ahead.cell
          dsimp only at c1' c3' g4
          clear hB' hfin hJ' hk c1 c2 c3 c4 f1 f2 f3
          gi_wp2
          exact unhide HFIN _
        · have e1 : ((se : Int) == 1) = false := by rw [beq_eq_false_iff_ne]; omega
          have e2 : (1 : Int) < se := by omega
          clear h
          gi_wp2
          refine (roundIn_wide (unhide HRd)).mono ?_
          rintro e A' ⟨rfl, hJ', hk, hz⟩
          obtain ⟨hB', hfin⟩ := unhide PASS A' hJ' hk hz
          have HFIN := hide hfin
          have c1' := hB'.seen.cell
          have c3' := hB'.waits.cell
          have g1 := hB'.seen.frozen
          have g2 := hB'.ahead.frozen
          have g3 := hB'.waits.frozen
          have g4 := hB'.ahead.cell
          dsimp only at c1' c3' g4
          clear hB' hfin hJ' hk c1 c2 c3 c4 f1 f2 f3
          gi_wp2
          exact unhide HFIN _
      | false =>
        rw [htu, if_neg (by simp)] at TU
        clear HYA
        simp only [turnB, Bool.or_eq_false_iff, Bool.and_eq_false_iff, decide_eq_false_iff_not] at htu
        have key : se = 0 ∨ (1 < se ∧ ah < wa ∧ wa < x) ∨ (1 < se ∧ ¬ ah < wa ∧ ¬ wa < x) := by
          obtain ⟨h, h2⟩ := htu
          rcases h2 with h2 | h2
          · exact Or.inl (by omega)
          · by_cases h0 : se = 0
            · exact Or.inl h0
            · by_cases ha : ah < wa <;> by_cases hx : wa < x <;> simp [ha, hx] at h2
              · exact Or.inr (Or.inl ⟨by omega, ha, hx⟩)
              · exact Or.inr (Or.inr ⟨by omega, ha, hx⟩)
        clear htu
        have HFIN := hide fun a3 => unhide FIN a3 A (unhide HB) (by rw [unhide TU]; exact unhide HJ) (fun _ _ _ => rfl) (Nat.le_refl _)
        clear FIN TU HB HJ
        rcases key with h | ⟨h, ha, hx⟩ | ⟨h, ha, hx⟩
        · have e1 : ((se : Int) == 1) = false := by rw [beq_eq_false_iff_ne]; omega
          have e2 : (se : Int) ≤ 1 := by omega
          clear h
          gi_wp2
          refine ⟨fun _ h => (by cases h), ?_⟩
          gi_wp2
          exact unhide HFIN _
        · have e1 : ((se : Int) == 1) = false := by rw [beq_eq_false_iff_ne]; omega
          have e2 : (1 : Int) < se := by omega
          clear h
          gi_wp2
          refine ⟨fun _ h => (by cases h), ?_⟩
          gi_wp2
          exact unhide HFIN _
        · have e1 : ((se : Int) == 1) = false := by rw [beq_eq_false_iff_ne]; omega
          have e2 : (1 : Int) < se := by omega
          clear h
          gi_wp2
          refine ⟨fun _ h => (by cases h), ?_⟩
          gi_wp2
          exact unhide HFIN _
    case done =>
      rintro xs A rfl ⟨hB, hJ⟩ hsz hK
      have h55 := unhide HH5
      have hseen := tSt_seen (mvTo L L.length)
      have hml := mvTo_len L L.length
      have c1 := hB.seen.cell
      have c3 := hB.waits.cell
      have c4 := hB.y.cell
      by_cases h0' : (tSt (mvTo L L.length)).seen = 0
      · have e1 : turnsOf L = (tSt (mvTo L L.length)).out := by
          rw [unhide HF, tOut, if_pos h0', List.length_eq_zero_iff.1 (show (tSt (mvTo L L.length)).out.length = 0 by omega)]
        have hJ2 := unhide HT _ _ _ hJ ((kept_putObj A (l := W5.heap.size) (.deferred none)).mono (fun k _ e => by omega))
        rw [← e1] at hJ2
        have HJ2 := hide hJ2
        rw [h0'] at c1
        clear hB hJ hJ2 e1 hseen h0' c3 c4 h55
        gi_wp2
        refine ⟨by simp, .inl ⟨_, _, rfl, run_takeDeferred hK, ?_⟩⟩
        exact ⟨_, results_none rfl _ _ _, ⟨_, rfl⟩, unhide HJ2⟩
      · have e1 : turnsOf L = (tSt (mvTo L L.length)).out ++ [(tSt (mvTo L L.length)).waits] := by rw [unhide HF, tOut, if_neg h0']
        obtain ⟨fn, tmps, assign, body, hy, hRd⟩ := unhide HY _ (tSt (mvTo L L.length)).waits A hJ (by omega) (by simp; omega) (snoc_mem (fun y hy => mvTo_mem L L.length (Nat.le_refl _) y ((tSt_mem _).1 y hy)) (mvTo_mem L L.length (Nat.le_refl _) _ ((tSt_mem _).2 (by omega))))
        have HRd := hide hRd
        have HE := hide e1
        have hp : (0 : Int) < (tSt (mvTo L L.length)).seen := by omega
        clear hB hJ e1 hseen h0' hRd h55
        generalize (tSt (mvTo L L.length)).out = out at *
        generalize (tSt (mvTo L L.length)).waits = wa at *
        generalize ((tSt (mvTo L L.length)).seen : Int) = se at *
        gi_wp2
        refine (roundIn_wide' (unhide HRd)).mono ?_
        rintro e A' ⟨rfl, hJ', hk, hz⟩
        have hK' : A'.heap[W5.heap.size]? = some (.deferred (some [])) := (hk _ (by have := unhide HH5; omega) (by have := unhide HH5; omega)).trans hK
        have hJ2 := unhide HT _ _ _ hJ' ((kept_putObj A' (l := W5.heap.size) (.deferred none)).mono (fun k _ e => by have := unhide HH5; omega))
        rw [← unhide HE] at hJ2
        have HJ2 := hide hJ2
        clear hJ' hJ2 hk hK c1 c3 c4
        gi_wp2
        refine ⟨by simp, .inl ⟨_, _, rfl, run_takeDeferred hK', ?_⟩⟩
        exact ⟨_, results_none rfl _ _ _, ⟨_, rfl⟩, unhide HJ2⟩

end Go.Proofs.Ytliodmahbdmcbaa
