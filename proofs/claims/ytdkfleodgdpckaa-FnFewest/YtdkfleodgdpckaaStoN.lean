/- Fewest overstows in numbers: all ways gone through in their order, and the same with what can't come out well left aside. No statement about the program stands here. -/
import Derived.Test.YtdkfleodgdpckaaStoM
namespace Go.Proofs.Ytdkfleodgdpckaa
open Go.RowKit

/-- Stow i stands above stow k and stays longer. -/
def ovB (L : List StowT) (i k : Nat) : Bool := decide ((ssp (stO L i)).1 = (ssp (stO L k)).1 ∧ (ssp (stO L i)).2.1 = (ssp (stO L k)).2.1 ∧ (ssp (stO L k)).2.2 < (ssp (stO L i)).2.2 ∧ toS (stO L k) < toS (stO L i))
def ovS (L : List StowT) : Nat → Nat
  | 0 => 0
  | i + 1 => ovS L i + cntTo (ovB L i) L.length
def over (L : List StowT) : Nat := ovS L L.length
theorem ovS_le (L : List StowT) : ∀ i, ovS L i ≤ i * L.length
  | 0 => by simp [ovS]
  | i + 1 => by
    have h1 := ovS_le L i
    have h2 := cntTo_le (ovB L i) L.length
    rw [ovS, Nat.add_mul, Nat.one_mul]
    omega
theorem ovB_app {A B : List StowT} {i k : Nat} (hi : i < A.length) (hk : k < A.length) : ovB (A ++ B) i k = ovB A i k := by
  unfold ovB
  rw [stO_append hi, stO_append hk]
theorem ovS_app (A B : List StowT) : ∀ i, i ≤ A.length → ovS A i ≤ ovS (A ++ B) i
  | 0, _ => Nat.le_refl _
  | i + 1, hi => by
    have h1 := ovS_app A B i (by omega)
    have h2 := cntTo_mono (p := ovB A i) (q := ovB (A ++ B) i) (n := A.length) (fun k hk h => by rw [ovB_app (by omega) hk]; exact h) A.length (Nat.le_refl _)
    have h3 := cntTo_step (ovB (A ++ B) i) (m := A.length) (n := (A ++ B).length) (by simp)
    rw [ovS, ovS]
    omega
theorem ovS_step (L : List StowT) {m n : Nat} (h : m ≤ n) : ovS L m ≤ ovS L n := by
  induction n with
  | zero => have : m = 0 := by omega
            rw [this]; exact Nat.le_refl _
  | succ n ih =>
    by_cases e : m = n + 1
    · rw [e]; exact Nat.le_refl _
    · have := ih (by omega)
      rw [ovS]
      omega
/-- More boxes never make fewer overstows. -/
theorem over_app (A B : List StowT) : over A ≤ over (A ++ B) := Nat.le_trans (ovS_app A B _ (Nat.le_refl _)) (ovS_step (A ++ B) (by simp))

abbrev AccT := List StowT × Bool
/-- All ways, in the order of their spots. -/
def seek (H : List HatchT) (S : List I3) : List BoxT → List StowT → AccT → AccT
  | [], so, acc => if wellB H so = true ∧ (acc.2 = false ∨ over so < over acc.1) then (so, true) else acc
  | b :: bs, so, acc => S.foldl (fun a s => if hasB so s = true then a else seek H S bs (so ++ [mkS b s]) a) acc
/-- The same, what can't come out well left aside. -/
def tryF (H : List HatchT) (S : List I3) : List BoxT → List StowT → AccT → AccT
  | [], way, acc => if acc.2 = true ∧ over acc.1 ≤ over way then acc else if (stowC H way).1 = 0 then (way, true) else acc
  | b :: bs, way, acc => if acc.2 = true ∧ over acc.1 ≤ over way then acc else if (stowC H way).1 = 0 ∨ (stowC H way).1 = 4 then S.foldl (fun a s => if hasB way s = true then a else tryF H S bs (way ++ [mkS b s]) a) acc else acc

theorem foldl_same {α β : Type} {f : α → β → α} {a : α} (h : ∀ s, f a s = a) : ∀ S : List β, S.foldl f a = a
  | [] => rfl
  | s :: S => by rw [List.foldl_cons, h s, foldl_same h S]
theorem foldl_alike {α β : Type} {f g : α → β → α} (h : ∀ a s, f a s = g a s) : ∀ (S : List β) (a : α), S.foldl f a = S.foldl g a
  | [], _ => rfl
  | s :: S, a => by rw [List.foldl_cons, List.foldl_cons, h a s, foldl_alike h S]
theorem seek_prune (H : List HatchT) (S : List I3) : ∀ (bs : List BoxT) (so : List StowT) (acc : AccT), acc.2 = true → over acc.1 ≤ over so → seek H S bs so acc = acc
  | [], so, acc, h1, h2 => by
    rw [seek, if_neg]
    rintro ⟨_, h | h⟩
    · rw [h1] at h; cases h
    · omega
  | b :: bs, so, acc, h1, h2 => by
    rw [seek]
    refine foldl_same (fun s => ?_) S
    split
    · rfl
    · exact seek_prune H S bs _ acc h1 (Nat.le_trans h2 (over_app _ _))
def Dead (H : List HatchT) (so : List StowT) : Prop := ∀ ext, wellB H (so ++ ext) = false
theorem seek_dead (H : List HatchT) (S : List I3) : ∀ (bs : List BoxT) (so : List StowT) (acc : AccT), Dead H so → seek H S bs so acc = acc
  | [], so, acc, hd => by
    have := hd []
    rw [List.append_nil] at this
    rw [seek, if_neg]
    rintro ⟨h, _⟩
    rw [this] at h
    cases h
  | b :: bs, so, acc, hd => by
    rw [seek]
    refine foldl_same (fun s => ?_) S
    split
    · rfl
    · refine seek_dead H S bs _ acc fun ext => ?_
      rw [List.append_assoc]
      exact hd _

theorem hasB_app {A B : List StowT} {s : I3} (h : hasB A s = true) : hasB (A ++ B) s = true := by
  simp only [hasB, decide_eq_true_eq] at h
  obtain ⟨k, hk, e⟩ := h
  exact hasB_hit (k := k) (by simp; omega) (by rw [stO_append hk]; exact e)
theorem tierO_app {A B : List StowT} {b r : Int} {t : Nat} (h : hasB A (b, r, (t : Int)) = true) : tierO (A ++ B) b r t = tierO A b r t := by
  unfold tierO
  rw [if_pos h, if_pos (hasB_app h)]
  obtain ⟨k, hk, e, ev, hf⟩ := atV_has h
  have ev' : atV (A ++ B) (b, r, (t : Int)) = (k : Int) := atV_hit (by simp; omega) (by rw [stO_append hk]; exact e) (fun q hq => by rw [stO_append (by omega)]; exact hf q hq)
  rw [ev, ev', Int.toNat_natCast, stO_append hk]
theorem has_down {A : List StowT} {b r : Int} (h4 : ∀ i, i < A.length → f4 A i = false) : ∀ (d t : Nat), hasB A (b, r, ((t + d : Nat) : Int)) = true → hasB A (b, r, (t : Int)) = true
  | 0, t, h => h
  | d + 1, t, h => by
    refine has_down h4 d t ?_
    simp only [hasB, decide_eq_true_eq] at h
    obtain ⟨k, hk, e⟩ := h
    have := h4 k hk
    unfold f4 at this
    rw [e] at this
    simp only [Bool.and_eq_false_iff, decide_eq_false_iff_not, Bool.not_eq_false'] at this
    rcases this with h | h
    · omega
    · rw [show (((t + d : Nat) : Int)) = ((t + (d + 1) : Nat) : Int) - 1 by omega]
      exact h
/-- Where nothing floats, a stack only grows by more boxes. -/
theorem stkT_app {A B : List StowT} {b r : Int} (h4 : ∀ i, i < A.length → f4 A i = false) : ∀ t, (stkT (A ++ B) b r t = stkT A b r t ∧ ∀ u, u < t → hasB A (b, r, (u : Int)) = true) ∨ ((∃ rest, stkT (A ++ B) b r t = stkT A b r t ++ rest) ∧ ∃ u, u < t ∧ hasB A (b, r, (u : Int)) = false)
  | 0 => Or.inl ⟨rfl, fun u hu => by omega⟩
  | t + 1 => by
    rcases stkT_app (B := B) h4 t with ⟨e, ha⟩ | ⟨⟨rest, e⟩, u, hu, hn⟩
    · cases h : hasB A (b, r, (t : Int)) with
      | true =>
        refine Or.inl ⟨by rw [stkT, stkT, e, tierO_app h], fun u hu => ?_⟩
        by_cases e2 : u = t
        · rw [e2]; exact h
        · exact ha u (by omega)
      | false =>
        refine Or.inr ⟨⟨tierO (A ++ B) b r t, ?_⟩, t, by omega, h⟩
        rw [stkT, stkT, e, show tierO A b r t = [] by unfold tierO; rw [if_neg (by rw [h]; decide)], List.append_nil]
    · refine Or.inr ⟨⟨rest ++ tierO (A ++ B) b r t, ?_⟩, u, by omega, hn⟩
      have hnt : hasB A (b, r, (t : Int)) = false := by
        cases h : hasB A (b, r, (t : Int)) with
        | false => rfl
        | true =>
          have := has_down h4 (t - u) u (by rw [show u + (t - u) = t by omega]; exact h)
          rw [hn] at this
          cases this
      rw [stkT, stkT, e, show tierO A b r t = [] by unfold tierO; rw [if_neg (by rw [hnt]; decide)], List.append_nil, List.append_assoc]
theorem stkL_app {A B : List StowT} {b r : Int} (h4 : ∀ i, i < A.length → f4 A i = false) : ∃ rest, stkL (A ++ B) b r = stkL A b r ++ rest := by
  rcases stkT_app (B := B) (b := b) (r := r) h4 20 with ⟨e, _⟩ | ⟨h, _⟩
  · exact ⟨[], by rw [List.append_nil]; exact e⟩
  · exact h
theorem take_getDN (L : List BoxT) {m k : Nat} (hk : k < m) (_hm : m ≤ L.length) : (L.take m).getD k default = L.getD k default := by
  simp [List.getD, hk]
theorem good_takeN {L : List BoxT} {m k : Nat} (hk : k < m) (hm : m ≤ L.length) (h : stGood L k) : stGood (L.take m) k := by
  obtain ⟨h1, h2, h3⟩ := h
  refine ⟨?_, fun h0 => ?_, fun hc => ?_⟩
  · unfold okO at *; rw [take_getDN L hk hm]; exact h1
  · have := h2 h0
    unfold wtO at *
    rw [take_getDN L hk hm, take_getDN L (by omega) hm]
    exact this
  · unfold coO at *
    rw [take_getDN L hk hm] at hc
    exact h3 hc
theorem sum_takeN (L : List BoxT) {m : Nat} (hm : m ≤ L.length) : ∀ k, k ≤ m → sumTo (wtO (L.take m)) k = sumTo (wtO L) k
  | 0, _ => rfl
  | k + 1, hk => by
    rw [sumTo, sumTo, sum_takeN L hm k (by omega)]
    unfold wtO
    rw [take_getDN L (by omega) hm]
theorem stack_topN {L : List BoxT} {most : Int} {m : Nat} (hl : L.length = m + 1) (h : stackB L most = true) : stackB (L.take m) most = true := by
  simp only [stackB, stk2, Bool.and_eq_true, decide_eq_true_eq] at h ⊢
  obtain ⟨⟨⟨h1, h2⟩, h3⟩, h4⟩ := h
  have hle : m ≤ L.length := by omega
  have hlt : (L.take m).length = m := by rw [List.length_take]; omega
  rw [hlt, sum_takeN L hle m (Nat.le_refl _)]
  refine ⟨⟨⟨by omega, fun k hk => good_takeN hk hle (h2 k (by omega))⟩, h3⟩, ?_⟩
  rw [hl, sumTo] at h4
  have := okO_wt (h2 m (by omega)).1
  omega
theorem stack_take {most : Int} : ∀ (n m : Nat) (L : List BoxT), L.length = m + n → stackB L most = true → stackB (L.take m) most = true
  | 0, m, L, hl, h => by rw [List.take_of_length_le (by omega)]; exact h
  | n + 1, m, L, hl, h => by
    have h1 := stack_topN (m := m + n) (by omega) h
    have h2 := stack_take n m (L.take (m + n)) (by rw [List.length_take]; omega) h1
    rw [List.take_take, Nat.min_eq_left (by omega)] at h2
    exact h2
theorem stack_app {A B : List BoxT} {most : Int} (h : stackB (A ++ B) most = true) : stackB A most = true := by
  have := stack_take B.length A.length (A ++ B) (by simp) h
  rwa [List.take_left'] at this
  rfl
theorem colB_app {A B : List StowT} {b : Int} {i : Nat} (hi : i < A.length) : colB (A ++ B) b i = colB A b i := by unfold colB; rw [stO_append hi]
theorem cold_app (A B : List StowT) (b : Int) : cntTo (colB A b) A.length ≤ cntTo (colB (A ++ B) b) (A ++ B).length := by
  have h1 := cntTo_mono (p := colB A b) (q := colB (A ++ B) b) (n := A.length) (fun k hk h => by rw [colB_app hk]; exact h) A.length (Nat.le_refl _)
  have h2 := cntTo_step (colB (A ++ B) b) (m := A.length) (n := (A ++ B).length) (by simp)
  omega
/-- A plan that has a fault other than that something floats never comes out well. -/
theorem dead_of {H : List HatchT} {A : List StowT} (h0 : (stowC H A).1 ≠ 0) (h4 : (stowC H A).1 ≠ 4) : Dead H A := by
  intro B
  cases hw : wellB H (A ++ B) with
  | false => rfl
  | true =>
    exfalso
    obtain ⟨hh, hl, hall⟩ := wellB_iff.1 hw
    have hlA : A.length ≤ 40 := by rw [List.length_append] at hl; omega
    have hin : ∀ i, i < A.length → i < (A ++ B).length := fun i hi => by rw [List.length_append]; omega
    have e1 : ∀ i, i < A.length → f1 A i = false := fun i hi => by
      have := hall 1 (by omega) (by omega) i (hin i hi)
      simp only [failC, if_true] at this
      unfold f1 at *
      rwa [stO_append hi] at this
    have e2 : ∀ i, i < A.length → f2 A i = false := fun i hi => by
      have := hall 2 (by omega) (by omega) i (hin i hi)
      simp only [failC, if_true, show ¬ (2 : Nat) = 1 by decide, if_false] at this
      simp only [f2, decide_eq_false_iff_not] at *
      rintro ⟨k, hk, h⟩
      refine this ⟨k, hk, ?_⟩
      rw [stO_append hi, stO_append (by omega)]
      exact h
    have e3 : ∀ i, i < A.length → f3 H A i = false := fun i hi => by
      have := hall 3 (by omega) (by omega) i (hin i hi)
      simp only [failC, if_true, show ¬ (3 : Nat) = 1 by decide, show ¬ (3 : Nat) = 2 by decide, if_false] at this
      unfold f3 at *
      rwa [stO_append hi] at this
    rcases stowC_cases H A with ⟨h | h, _⟩ | ⟨_, _, c, i, c1, c7, hi, hf, ha, hp, e⟩ | ⟨_, _, _, e⟩
    · rw [hh] at h; cases h
    · omega
    · rw [e] at h4
      have hc4 : c ≠ 4 := fun h => h4 (by rw [h]; rfl)
      have hcc : c = 1 ∨ c = 2 ∨ c = 3 ∨ c = 5 ∨ c = 6 ∨ c = 7 := by omega
      rcases hcc with rfl | rfl | rfl | rfl | rfl | rfl
      · have := e1 i hi
        simp only [failC, if_true] at hf
        rw [this] at hf; cases hf
      · have := e2 i hi
        simp only [failC, if_true, show ¬ (2 : Nat) = 1 by decide, if_false] at hf
        rw [this] at hf; cases hf
      · have := e3 i hi
        simp only [failC, if_true, show ¬ (3 : Nat) = 1 by decide, show ¬ (3 : Nat) = 2 by decide, if_false] at hf
        rw [this] at hf; cases hf
      · have h4' : ∀ i, i < A.length → f4 A i = false := fun i hi => by
          have := hp 4 (by omega) (by omega) i hi
          simpa only [failC, if_true, show ¬ (4 : Nat) = 1 by decide, show ¬ (4 : Nat) = 2 by decide, show ¬ (4 : Nat) = 3 by decide, if_false] using this
        have := hall 5 (by omega) (by omega) i (hin i hi)
        simp only [failC, if_true, show ¬ (5 : Nat) = 1 by decide, show ¬ (5 : Nat) = 2 by decide, show ¬ (5 : Nat) = 3 by decide, show ¬ (5 : Nat) = 4 by decide, if_false] at this hf
        unfold f5 at *
        rw [stO_append hi] at this
        obtain ⟨rest, er⟩ := stkL_app (B := B) (b := (ssp (stO A i)).1) (r := (ssp (stO A i)).2.1) h4'
        rw [er] at this
        rw [stack_app (by simpa using this)] at hf
        cases hf
      · have := hall 6 (by omega) (by omega) i (hin i hi)
        simp only [failC, if_true, show ¬ (6 : Nat) = 1 by decide, show ¬ (6 : Nat) = 2 by decide, show ¬ (6 : Nat) = 3 by decide, show ¬ (6 : Nat) = 4 by decide, show ¬ (6 : Nat) = 5 by decide, if_false] at this hf
        unfold f6 at *
        rw [stO_append hi] at this
        have hcl := cold_app A B (ssp (stO A i)).1
        simp only [Bool.and_eq_true, decide_eq_true_eq] at hf
        simp only [Bool.and_eq_false_iff, decide_eq_false_iff_not] at this
        rcases this with h | h
        · rw [hf.1] at h; cases h
        · omega
      · have := hall 7 (by omega) (by omega) i (hin i hi)
        simp only [failC, show ¬ (7 : Nat) = 1 by decide, show ¬ (7 : Nat) = 2 by decide, show ¬ (7 : Nat) = 3 by decide, show ¬ (7 : Nat) = 4 by decide, show ¬ (7 : Nat) = 5 by decide, show ¬ (7 : Nat) = 6 by decide, if_false] at this hf
        simp only [f7, decide_eq_false_iff_not, decide_eq_true_eq] at *
        obtain ⟨k, hk, h⟩ := hf
        refine this ⟨k, hk, ?_⟩
        rw [stO_append hi, stO_append (by omega)]
        exact h
    · exact h0 (by rw [e])
/-- Both come to the same. -/
theorem try_seek (H : List HatchT) (S : List I3) : ∀ (bs : List BoxT) (way : List StowT) (acc : AccT), tryF H S bs way acc = seek H S bs way acc
  | [], way, acc => by
    rw [tryF, seek]
    by_cases h1 : acc.2 = true ∧ over acc.1 ≤ over way
    · rw [if_pos h1, if_neg]
      rintro ⟨_, h | h⟩
      · rw [h1.1] at h; cases h
      · omega
    · rw [if_neg h1]
      by_cases h2 : (stowC H way).1 = 0
      · rw [if_pos h2, if_pos]
        refine ⟨by simp [wellB, h2], ?_⟩
        cases e : acc.2 with
        | false => exact Or.inl rfl
        | true => exact Or.inr (by rcases Nat.lt_or_ge (over way) (over acc.1) with g | g; exact g; exact absurd ⟨e, g⟩ h1)
      · rw [if_neg h2, if_neg]
        rintro ⟨h, _⟩
        simp only [wellB, decide_eq_true_eq] at h
        exact h2 h
  | b :: bs, way, acc => by
    rw [tryF]
    by_cases h1 : acc.2 = true ∧ over acc.1 ≤ over way
    · rw [if_pos h1, seek_prune H S (b :: bs) way acc h1.1 h1.2]
    · rw [if_neg h1]
      by_cases h2 : (stowC H way).1 = 0 ∨ (stowC H way).1 = 4
      · rw [if_pos h2, seek]
        refine foldl_alike (fun a s => ?_) S acc
        split
        · rfl
        · exact try_seek H S bs _ a
      · rw [if_neg h2]
        have hd : Dead H way := dead_of (fun h => h2 (Or.inl h)) (fun h => h2 (Or.inr h))
        rw [seek_dead H S (b :: bs) way acc hd]

theorem foldl_inv {α β : Type} {f : α → β → α} {p : α → Prop} (h : ∀ a s, p a → p (f a s)) : ∀ (S : List β) (a : α), p a → p (S.foldl f a)
  | [], _, ha => ha
  | s :: S, a, ha => foldl_inv h S (f a s) (h a s ha)
theorem seek_len (H : List HatchT) (S : List I3) : ∀ (bs : List BoxT) (so : List StowT) (acc : AccT), so.length + bs.length ≤ 5 → acc.1.length ≤ 5 → (seek H S bs so acc).1.length ≤ 5
  | [], so, acc, h1, h2 => by
    rw [seek]
    split
    · simpa using h1
    · exact h2
  | b :: bs, so, acc, h1, h2 => by
    rw [seek]
    refine foldl_inv (p := fun a : AccT => a.1.length ≤ 5) (fun a s ha => ?_) S acc h2
    split
    · exact ha
    · exact seek_len H S bs _ a (by rw [List.length_append]; simp at h1 ⊢; omega) ha

end Go.Proofs.Ytdkfleodgdpckaa
