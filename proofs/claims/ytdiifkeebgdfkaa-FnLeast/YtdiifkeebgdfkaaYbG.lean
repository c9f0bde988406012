/- LeastShuffles in numbers: piles of turns, what may go out, whether so many moves do. No statement about the program stands here. -/
import Derived.Test.YtdiifkeebgdfkaaYaE
import Derived.Test.YtdiifkeebgdfkaaYbM
namespace Go.Proofs.Ytdiifkeebgdfkaa

/-- The first pile whose topmost turn is k. -/
def topAt : List (List Int) → Int → Option Nat
  | [], _ => none
  | p :: P, k => if p.head? = some k then some 0 else (topAt P k).map (· + 1)
theorem topAt_none : ∀ {P : List (List Int)} {k : Int}, (∀ s, s < P.length → (P.getD s []).head? ≠ some k) → topAt P k = none
  | [], _, _ => rfl
  | p :: P, k, h => by
    have h0 := h 0 (by simp)
    rw [List.getD_cons_zero] at h0
    have hr := topAt_none (P := P) (k := k) (fun s hs => by
      have := h (s + 1) (by simp; omega)
      rwa [List.getD_cons_succ] at this)
    simp [topAt, h0, hr]
theorem topAt_some : ∀ {P : List (List Int)} {k : Int} {s : Nat}, s < P.length → (∀ j, j < s → (P.getD j []).head? ≠ some k) → (P.getD s []).head? = some k → topAt P k = some s
  | [], _, _, h, _, _ => by simp at h
  | p :: P, x, 0, _, _, hx => by
    rw [List.getD_cons_zero] at hx
    simp [topAt, hx]
  | p :: P, x, s + 1, hs, hj, hx => by
    rw [List.getD_cons_succ] at hx
    have h0 := hj 0 (by omega)
    rw [List.getD_cons_zero] at h0
    have := topAt_some (P := P) (k := x) (s := s) (by simpa using hs) (fun j h => by
      have := hj (j + 1) (by omega)
      rwa [List.getD_cons_succ] at this) hx
    simp [topAt, h0, this]
theorem topAt_at : ∀ {P : List (List Int)} {k : Int} {s : Nat}, topAt P k = some s → s < P.length ∧ (P.getD s []).head? = some k
  | [], _, _, h => by simp [topAt] at h
  | p :: P, k, s, h => by
    by_cases e : p.head? = some k
    · simp only [topAt, if_pos e, Option.some.injEq] at h
      subst h
      exact ⟨by simp, by rw [List.getD_cons_zero]; exact e⟩
    · simp only [topAt, if_neg e] at h
      obtain ⟨q, hq, rfl⟩ := Option.map_eq_some_iff.1 h
      obtain ⟨h1, h2⟩ := topAt_at hq
      exact ⟨by simpa using h1, by rw [List.getD_cons_succ]; exact h2⟩
theorem topAt_not : ∀ {P : List (List Int)} {k : Int}, topAt P k = none → ∀ s, s < P.length → (P.getD s []).head? ≠ some k
  | [], _, _, s, h => by simp at h
  | p :: P, k, h, s, hs => by
    by_cases e : p.head? = some k
    · simp [topAt, e] at h
    · simp only [topAt, if_neg e, Option.map_eq_none_iff] at h
      cases s with
      | zero => rw [List.getD_cons_zero]; exact e
      | succ s => rw [List.getD_cons_succ]; exact topAt_not h s (by simpa using hs)

/-- What may go out goes. -/
def freeP : Nat → List (List Int) → Nat → List (List Int) × Nat
  | 0, P, k => (P, k)
  | n + 1, P, k => match topAt P (k : Int) with
    | none => (P, k)
    | some s => freeP n (P.set s (P.getD s []).tail) (k + 1)
theorem freeP_stop : ∀ {n : Nat} {P : List (List Int)} {k : Nat}, (freeP n P k).2 = k + n ∨ topAt (freeP n P k).1 ((freeP n P k).2 : Int) = none
  | 0, P, k => Or.inl rfl
  | n + 1, P, k => by
    simp only [freeP]
    cases h : topAt P (k : Int) with
    | none => exact Or.inr h
    | some s =>
      rcases freeP_stop (n := n) (P := P.set s (P.getD s []).tail) (k := k + 1) with e | e
      · exact Or.inl (by rw [e]; omega)
      · exact Or.inr e
theorem freeP_len : ∀ {n : Nat} {P : List (List Int)} {k : Nat}, (freeP n P k).1.length = P.length ∧ k ≤ (freeP n P k).2 ∧ (freeP n P k).2 ≤ k + n
  | 0, P, k => ⟨rfl, Nat.le_refl _, Nat.le_refl _⟩
  | n + 1, P, k => by
    simp only [freeP]
    cases h : topAt P (k : Int) with
    | none => exact ⟨rfl, Nat.le_refl _, Nat.le_add_right _ _⟩
    | some s =>
      obtain ⟨h1, h2, h3⟩ := freeP_len (n := n) (P := P.set s (P.getD s []).tail) (k := k + 1)
      exact ⟨by rw [h1, List.length_set], by dsimp only; omega, by dsimp only; omega⟩
theorem freeP_low {H : Int} : ∀ {n : Nat} {P : List (List Int)} {k : Nat}, (∀ s, s < P.length → ((P.getD s []).length : Int) ≤ H) → ∀ s, s < P.length → (((freeP n P k).1.getD s []).length : Int) ≤ H
  | 0, P, k, h => h
  | n + 1, P, k, h => by
    simp only [freeP]
    cases e : topAt P (k : Int) with
    | none => exact h
    | some q =>
      intro s hs
      refine freeP_low (P := P.set q (P.getD q []).tail) (k := k + 1) (n := n) (fun s hs => ?_) s (by rw [List.length_set]; exact hs)
      rw [List.length_set] at hs
      by_cases e2 : s = q
      · subst e2
        rw [rowset_self hs, List.length_tail]
        have := h s hs
        omega
      · rw [rowset_ne e2]; exact h s hs

/-- The topmost of pile a goes onto pile b. -/
def shiftP (P : List (List Int)) (a b : Nat) : List (List Int) := (P.set a (P.getD a []).tail).set b ((P.getD a []).headD 0 :: (P.set a (P.getD a []).tail).getD b [])
theorem shiftP_len (P : List (List Int)) (a b : Nat) : (shiftP P a b).length = P.length := by simp [shiftP]
theorem shiftP_low {H : Int} {P : List (List Int)} {a b : Nat} (hab : a ≠ b) (h : ∀ s, s < P.length → ((P.getD s []).length : Int) ≤ H) (hb : ((P.getD b []).length : Int) < H) : ∀ s, s < P.length → (((shiftP P a b).getD s []).length : Int) ≤ H := by
  intro s hs
  unfold shiftP
  by_cases e1 : s = b
  · subst e1
    rw [rowset_self (by rw [List.length_set]; exact hs), rowset_ne (fun e => hab e.symm), List.length_cons]
    omega
  · rw [rowset_ne e1]
    by_cases e2 : s = a
    · subst e2
      rw [rowset_self hs, List.length_tail]
      have := h s hs
      omega
    · rw [rowset_ne e2]; exact h s hs

def anyAB (n : Nat) (F : Nat → Nat → Bool) : Bool := (List.range n).any fun a => (List.range n).any fun b => F a b
theorem anyAB_true {n : Nat} {F : Nat → Nat → Bool} {a b : Nat} (ha : a < n) (hb : b < n) (h : F a b = true) : anyAB n F = true :=
  List.any_eq_true.2 ⟨a, List.mem_range.2 ha, List.any_eq_true.2 ⟨b, List.mem_range.2 hb, h⟩⟩
theorem anyAB_false {n : Nat} {F : Nat → Nat → Bool} (h : ∀ a, a < n → ∀ b, b < n → F a b = false) : anyAB n F = false := by
  cases e : anyAB n F with
  | false => rfl
  | true =>
    obtain ⟨a, ha, h1⟩ := List.any_eq_true.1 e
    obtain ⟨b, hb, h2⟩ := List.any_eq_true.1 h1
    rw [h a (List.mem_range.1 ha) b (List.mem_range.1 hb)] at h2
    cases h2
theorem anyAB_congr {n : Nat} {F G : Nat → Nat → Bool} (h : ∀ a, a < n → ∀ b, b < n → F a b = G a b) : anyAB n F = anyAB n G := by
  cases e : anyAB n G with
  | true =>
    obtain ⟨a, ha, h1⟩ := List.any_eq_true.1 e
    obtain ⟨b, hb, h2⟩ := List.any_eq_true.1 h1
    exact anyAB_true (List.mem_range.1 ha) (List.mem_range.1 hb) ((h a (List.mem_range.1 ha) b (List.mem_range.1 hb)).trans h2)
  | false =>
    refine anyAB_false fun a ha b hb => ?_
    rw [h a ha b hb]
    cases e2 : G a b with
    | false => rfl
    | true => rw [anyAB_true ha hb e2] at e; cases e

def goAB (H : Int) (P : List (List Int)) (a b : Nat) : Bool := decide (a ≠ b) && (decide (0 < (P.getD a []).length) && decide (((P.getD b []).length : Int) < H))

/-- Whether all from turn k on can go with m moves. -/
def canP (H : Int) (L : Nat) : Nat → List (List Int) → Nat → Bool
  | 0, P, k => decide (blkP (freeP (L - k) P k).1 = 0)
  | m + 1, P, k => if blkP (freeP (L - k) P k).1 = 0 then true else if m + 1 < blkP (freeP (L - k) P k).1 then false
      else anyAB (freeP (L - k) P k).1.length fun a b => goAB H (freeP (L - k) P k).1 a b && canP H L m (shiftP (freeP (L - k) P k).1 a b) (freeP (L - k) P k).2
theorem can_zero {H : Int} {L m : Nat} {P : List (List Int)} {k : Nat} (h : blkP (freeP (L - k) P k).1 = 0) : canP H L m P k = true := by
  cases m <;> simp [canP, h]
theorem can_less {H : Int} {L m : Nat} {P : List (List Int)} {k : Nat} (h : m < blkP (freeP (L - k) P k).1) : canP H L m P k = false := by
  cases m with
  | zero => rw [canP]; exact decide_eq_false (by omega)
  | succ m => rw [canP, if_neg (by omega), if_pos h]
theorem can_any {H : Int} {L m : Nat} {P : List (List Int)} {k : Nat} (h0 : blkP (freeP (L - k) P k).1 ≠ 0) (h : ¬ m + 1 < blkP (freeP (L - k) P k).1) : canP H L (m + 1) P k = anyAB (freeP (L - k) P k).1.length fun a b => goAB H (freeP (L - k) P k).1 a b && canP H L m (shiftP (freeP (L - k) P k).1 a b) (freeP (L - k) P k).2 := by
  rw [canP, if_neg h0, if_neg h]

/-- The boxes of the order's rest stand in the yard, those ahead do not. -/
structure StO (O : List Int) (R : List (List Int)) (k : Nat) : Prop where
  nod : O.Nodup
  kl : k ≤ O.length
  inn : ∀ i, k ≤ i → i < O.length → O.getD i 0 ∈ R.flatten
  out : ∀ i, i < k → O.getD i 0 ∉ R.flatten
  one : R.flatten.Nodup

theorem mem_count {R : List (List Int)} {x : Int} : x ∈ R.flatten ↔ 0 < R.flatten.count x := List.count_pos_iff.symm

theorem StO.shift {O : List Int} {R : List (List Int)} {k a b : Nat} (h : StO O R k) (ha : a < R.length) (hb : b < R.length) (hab : a ≠ b) (hne : 0 < (R.getD a []).length) : StO O (shiftY R a b) k := by
  have hc := shift_count ha hb hab hne
  exact ⟨h.nod, h.kl, fun i h1 h2 => by rw [mem_count, hc, ← mem_count]; exact h.inn i h1 h2, fun i h1 => by rw [mem_count, hc, ← mem_count]; exact h.out i h1, List.nodup_iff_count.2 fun x => by rw [hc]; exact List.nodup_iff_count.1 h.one x⟩

/-- The first stack whose topmost box is x. -/
def topR : List (List Int) → Int → Option Nat
  | [], _ => none
  | r :: R, x => if 0 < r.length ∧ r.getLastD 0 = x then some 0 else (topR R x).map (· + 1)
theorem topR_none : ∀ {R : List (List Int)} {x : Int}, (∀ s, s < R.length → ¬ (0 < (R.getD s []).length ∧ (R.getD s []).getLastD 0 = x)) → topR R x = none
  | [], _, _ => rfl
  | p :: P, k, h => by
    have h0 := h 0 (by simp)
    rw [List.getD_cons_zero] at h0
    have hr := topR_none (R := P) (x := k) (fun s hs => by
      have := h (s + 1) (by simp; omega)
      rwa [List.getD_cons_succ] at this)
    rw [topR, if_neg h0, hr]; rfl
theorem topR_some : ∀ {R : List (List Int)} {x : Int} {s : Nat}, s < R.length → (∀ j, j < s → ¬ (0 < (R.getD j []).length ∧ (R.getD j []).getLastD 0 = x)) → (0 < (R.getD s []).length ∧ (R.getD s []).getLastD 0 = x) → topR R x = some s
  | [], _, _, h, _, _ => by simp at h
  | p :: P, x, 0, _, _, hx => by
    rw [List.getD_cons_zero] at hx
    rw [topR, if_pos hx]
  | p :: P, x, s + 1, hs, hj, hx => by
    rw [List.getD_cons_succ] at hx
    have h0 := hj 0 (by omega)
    rw [List.getD_cons_zero] at h0
    have := topR_some (R := P) (x := x) (s := s) (by simpa using hs) (fun j h => by
      have := hj (j + 1) (by omega)
      rwa [List.getD_cons_succ] at this) hx
    rw [topR, if_neg h0, this]; rfl
theorem topR_at : ∀ {R : List (List Int)} {x : Int} {s : Nat}, topR R x = some s → s < R.length ∧ 0 < (R.getD s []).length ∧ (R.getD s []).getLastD 0 = x
  | [], _, _, h => by simp [topR] at h
  | p :: P, k, s, h => by
    by_cases e : 0 < p.length ∧ p.getLastD 0 = k
    · rw [topR, if_pos e] at h
      simp only [Option.some.injEq] at h
      subst h
      exact ⟨by simp, by rw [List.getD_cons_zero]; exact e⟩
    · rw [topR, if_neg e] at h
      obtain ⟨q, hq, rfl⟩ := Option.map_eq_some_iff.1 h
      obtain ⟨h1, h2⟩ := topR_at hq
      exact ⟨by simpa using h1, by rw [List.getD_cons_succ]; exact h2⟩

theorem trn_eq {O : List Int} {k : Nat} {x : Int} (hn : O.Nodup) (hk : k < O.length) : trn O x = (k : Int) ↔ x = O.getD k 0 := by
  unfold trn
  constructor
  · intro h
    have h1 : O.idxOf x = k := by omega
    have h2 : O.idxOf x < O.length := by omega
    have h3 := List.getElem_idxOf h2
    have h4 : O.getD (O.idxOf x) 0 = x := by rw [getD_lt h2]; exact h3
    rw [← h4, h1]
  · rintro rfl
    rw [idx_self hk hn]
theorem trn_lt {O : List Int} {k : Nat} {x : Int} (h : trn O x < (k : Int)) (hk : k ≤ O.length) : ∃ i, i < k ∧ O.getD i 0 = x := by
  unfold trn at h
  have h2 : O.idxOf x < O.length := by omega
  exact ⟨O.idxOf x, by omega, by rw [getD_lt h2]; exact List.getElem_idxOf h2⟩
theorem trn_le (O : List Int) (x : Int) : trn O x ≤ (O.length : Int) := by
  unfold trn
  have := List.idxOf_le_length (l := O) (a := x)
  omega

theorem turns_top (O : List Int) {r : List Int} (h : 0 < r.length) : turnsOf O r = trn O (r.getLastD 0) :: turnsOf O r.dropLast := by
  conv => lhs; rw [← last_split h]
  simp [turnsOf]
theorem turns_nil (O : List Int) {r : List Int} (h : ¬ 0 < r.length) : turnsOf O r = [] := by
  have : r = [] := List.length_eq_zero_iff.1 (by omega)
  subst this
  rfl
theorem turns_head {O r : List Int} {k : Nat} (hn : O.Nodup) (hk : k < O.length) : (turnsOf O r).head? = some (k : Int) ↔ (0 < r.length ∧ r.getLastD 0 = O.getD k 0) := by
  by_cases h : 0 < r.length
  · rw [turns_top O h, List.head?_cons, Option.some.injEq, trn_eq hn hk]
    exact ⟨fun e => ⟨h, e⟩, fun e => e.2⟩
  · rw [turns_nil O h]
    simp [h]
theorem top_eq {O : List Int} {k : Nat} (hn : O.Nodup) (hk : k < O.length) : ∀ R : List (List Int), topAt (pilesOf O R) (k : Int) = topR R (O.getD k 0)
  | [] => rfl
  | r :: R => by
    have e : pilesOf O (r :: R) = turnsOf O r :: pilesOf O R := rfl
    rw [e]
    by_cases h : 0 < r.length ∧ r.getLastD 0 = O.getD k 0
    · rw [topAt, if_pos ((turns_head hn hk).2 h), topR, if_pos h]
    · rw [topAt, if_neg (fun z => h ((turns_head hn hk).1 z)), topR, if_neg h, top_eq hn hk R]

def freeR (O : List Int) : Nat → List (List Int) → Nat → List (List Int) × Nat
  | 0, R, k => (R, k)
  | n + 1, R, k => match topR R (O.getD k 0) with
    | none => (R, k)
    | some s => freeR O n (R.set s (R.getD s []).dropLast) (k + 1)

theorem piles_set (O : List Int) (R : List (List Int)) (i : Nat) (r : List Int) : pilesOf O (R.set i r) = (pilesOf O R).set i (turnsOf O r) := by simp [pilesOf, List.map_set]

theorem cut_count {R : List (List Int)} {s : Nat} (hs : s < R.length) (hl : 0 < (R.getD s []).length) (x : Int) : (R.set s (R.getD s []).dropLast).flatten.count x + [(R.getD s []).getLastD 0].count x = R.flatten.count x := by
  have h1 := set_flat_count R s (R.getD s []).dropLast x hs
  have h3 : (R.getD s []).count x = (R.getD s []).dropLast.count x + [(R.getD s []).getLastD 0].count x := by
    rw [← List.count_append, last_split hl]
  omega
theorem StO.cut {O : List Int} {R : List (List Int)} {k s : Nat} (h : StO O R k) (hk : k < O.length) (ht : topR R (O.getD k 0) = some s) : StO O (R.set s (R.getD s []).dropLast) (k + 1) := by
  obtain ⟨hs, hl, hx⟩ := topR_at ht
  have hc := cut_count hs hl
  rw [hx] at hc
  have hle := List.nodup_iff_count.1 h.one
  refine ⟨h.nod, hk, fun i h1 h2 => ?_, fun i h1 => ?_, List.nodup_iff_count.2 fun x => by have := hc x; have := hle x; omega⟩
  · have h3 := h.inn i (by omega) h2
    rw [mem_count] at h3 ⊢
    have h4 := hc (O.getD i 0)
    have h5 : O.getD k 0 ≠ O.getD i 0 := fun e => by
      rw [getD_lt hk, getD_lt h2] at e
      exact (List.pairwise_iff_getElem.1 h.nod k i hk h2 (by omega)) e
    have : [O.getD k 0].count (O.getD i 0) = 0 := List.count_eq_zero.2 (by simpa using fun e => h5 e.symm)
    omega
  · rw [mem_count]
    by_cases e : i = k
    · subst e
      have h4 := hc (O.getD i 0)
      have h5 := hle (O.getD i 0)
      have : [O.getD i 0].count (O.getD i 0) = 1 := by simp
      omega
    · have h3 := h.out i (by omega)
      rw [mem_count] at h3
      have h4 := hc (O.getD i 0)
      omega

/-- All turns in the yard are from k on. -/
theorem StO.turn {O : List Int} {R : List (List Int)} {k : Nat} (h : StO O R k) {x : Int} (hx : x ∈ R.flatten) : (k : Int) ≤ trn O x := by
  by_cases e : (k : Int) ≤ trn O x
  · exact e
  · obtain ⟨i, h1, h2⟩ := trn_lt (Int.not_le.1 e) h.kl
    exact absurd (h2 ▸ hx) (h.out i h1)
theorem mem_row {R : List (List Int)} {s : Nat} {x : Int} (hs : s < R.length) (hx : x ∈ R.getD s []) : x ∈ R.flatten := mem_flat.2 ⟨s, hs, hx⟩

theorem inW_top {x : Int} {xs : List Int} (h : ∀ y, y ∈ xs → x ≤ y) : inW (x :: xs) = inW xs := by
  simp only [inW]
  rw [if_neg]
  · omega
  · intro e
    obtain ⟨y, hy, h2⟩ := List.any_eq_true.1 e
    have := h y hy
    have := of_decide_eq_true h2
    omega

theorem blkP_set : ∀ {P : List (List Int)} {s : Nat} {p : List Int}, s < P.length → blkP (P.set s p) + inW (P.getD s []) = blkP P + inW p
  | [], s, p, h => by simp at h
  | q :: P, 0, p, _ => by simp [blkP]; omega
  | q :: P, s + 1, p, h => by
    have := blkP_set (P := P) (s := s) (p := p) (by simpa using h)
    rw [List.getD_cons_succ]
    simp only [blkP, List.set_cons_succ, List.map_cons, List.sum_cons] at this ⊢
    omega

theorem cut_blk {O : List Int} {R : List (List Int)} {k s : Nat} (h : StO O R k) (hk : k < O.length) (ht : topR R (O.getD k 0) = some s) : blkP (pilesOf O (R.set s (R.getD s []).dropLast)) = blkP (pilesOf O R) := by
  obtain ⟨hs, hl, hx⟩ := topR_at ht
  rw [piles_set]
  have h1 := blkP_set (P := pilesOf O R) (s := s) (p := turnsOf O (R.getD s []).dropLast) (by rw [piles_len]; exact hs)
  rw [piles_get O hs, turns_top O hl, hx, (trn_eq h.nod hk).2 rfl] at h1
  have h2 : inW ((k : Int) :: turnsOf O (R.getD s []).dropLast) = inW (turnsOf O (R.getD s []).dropLast) := inW_top fun y hy => by
    unfold turnsOf at hy
    rw [List.mem_reverse, List.mem_map] at hy
    obtain ⟨z, hz, rfl⟩ := hy
    exact h.turn (mem_row hs ((List.dropLast_sublist _).subset hz))
  omega

theorem free_eq {O : List Int} : ∀ {n : Nat} {R : List (List Int)} {k : Nat}, StO O R k → k + n ≤ O.length → freeP n (pilesOf O R) k = (pilesOf O (freeR O n R k).1, (freeR O n R k).2) ∧ StO O (freeR O n R k).1 (freeR O n R k).2 ∧ blkP (pilesOf O (freeR O n R k).1) = blkP (pilesOf O R)
  | 0, R, k, h, _ => ⟨rfl, h, rfl⟩
  | n + 1, R, k, h, hk => by
    have hkl : k < O.length := by omega
    simp only [freeP, freeR, top_eq h.nod hkl R]
    cases ht : topR R (O.getD k 0) with
    | none => exact ⟨rfl, h, rfl⟩
    | some s =>
      obtain ⟨h1, h2, h3⟩ := free_eq (n := n) (h.cut hkl ht) (by omega)
      obtain ⟨hs, hl, hx⟩ := topR_at ht
      have e : (pilesOf O R).set s ((pilesOf O R).getD s []).tail = pilesOf O (R.set s (R.getD s []).dropLast) := by
        rw [piles_set, piles_get O hs, turns_top O hl]; rfl
      dsimp only
      rw [e]
      exact ⟨h1, h2, h3.trans (cut_blk h hkl ht)⟩
theorem free_ok {H : Int} {O : List Int} : ∀ {n : Nat} {R : List (List Int)} {k : Nat}, YOk H R → YOk H (freeR O n R k).1 ∧ (freeR O n R k).1.length = R.length
  | 0, R, k, h => ⟨h, rfl⟩
  | n + 1, R, k, h => by
    simp only [freeR]
    cases ht : topR R (O.getD k 0) with
    | none => exact ⟨h, rfl⟩
    | some s =>
      obtain ⟨hs, hl, hx⟩ := topR_at ht
      have := free_ok (O := O) (n := n) (k := k + 1) (dropLast_take ▸ cut_ok h hs : YOk H (R.set s (R.getD s []).dropLast))
      exact ⟨this.1, by rw [this.2, List.length_set]⟩

/-- Once all may go that can, none is in the way just if all have gone. -/
theorem blk_zero {O : List Int} {R : List (List Int)} (h : StO O R O.length) : blkP (pilesOf O R) = 0 := by
  have h1 : ∀ L : List Int, (∀ y, y ∈ L → y = (O.length : Int)) → inW L = 0 := fun L => by
    induction L with
    | nil => intro _; rfl
    | cons x L ih =>
      intro hL
      rw [inW_top (fun y hy => by rw [hL x (by simp), hL y (by simp [hy])]; exact Int.le_refl _)]
      exact ih fun y hy => hL y (by simp [hy])
  have h2 : ∀ p, p ∈ pilesOf O R → inW p = 0 := fun p hp => by
    unfold pilesOf at hp
    obtain ⟨r, hr, rfl⟩ := List.mem_map.1 hp
    refine h1 _ fun y hy => ?_
    unfold turnsOf at hy
    rw [List.mem_reverse, List.mem_map] at hy
    obtain ⟨z, hz, rfl⟩ := hy
    have := h.turn (List.mem_flatten.2 ⟨r, hr, hz⟩)
    have := trn_le O z
    omega
  unfold blkP
  have : ∀ (P : List (List Int)), (∀ p, p ∈ P → inW p = 0) → (P.map inW).sum = 0 := fun P => by
    induction P with
    | nil => intro _; rfl
    | cons p P ih => intro hP; rw [List.map_cons, List.sum_cons, hP p (by simp), ih fun q hq => hP q (by simp [hq])]
  exact this _ h2
theorem inW_pos {x y : Int} {xs : List Int} (h : y ∈ xs) (hlt : y < x) : 1 ≤ inW (x :: xs) := by
  simp only [inW]
  rw [if_pos (List.any_eq_true.2 ⟨y, h, decide_eq_true hlt⟩)]
  omega
theorem blkP_ge : ∀ {P : List (List Int)} {s : Nat}, s < P.length → inW (P.getD s []) ≤ blkP P
  | [], s, h => by simp at h
  | q :: P, 0, _ => by simp [blkP]
  | q :: P, s + 1, h => by
    have := blkP_ge (P := P) (s := s) (by simpa using h)
    rw [List.getD_cons_succ]
    simp only [blkP, List.map_cons, List.sum_cons] at this ⊢
    omega
theorem blk_pos {O : List Int} {R : List (List Int)} {k : Nat} (h : StO O R k) (hk : k < O.length) (ht : topR R (O.getD k 0) = none) : 1 ≤ blkP (pilesOf O R) := by
  obtain ⟨s, hs, hx⟩ := mem_flat.1 (h.inn k (Nat.le_refl _) hk)
  have hl : 0 < (R.getD s []).length := List.length_pos_of_mem hx
  have hnt := topAt_not ((top_eq h.nod hk R).trans ht) s (by rw [piles_len]; exact hs)
  rw [piles_get O hs] at hnt
  have hne : (R.getD s []).getLastD 0 ≠ O.getD k 0 := fun e => hnt ((turns_head h.nod hk).2 ⟨hl, e⟩)
  have hge := blkP_ge (P := pilesOf O R) (s := s) (by rw [piles_len]; exact hs)
  rw [piles_get O hs, turns_top O hl] at hge
  have hlast : (R.getD s []).getLastD 0 ∈ R.getD s [] := by
    have hq := last_split hl
    rw [← hq]
    simp
  have hdl : O.getD k 0 ∈ (R.getD s []).dropLast := by
    have hx' := hx
    rw [← last_split hl, List.mem_append, List.mem_singleton] at hx'
    rcases hx' with h1 | h1
    · exact h1
    · exact absurd h1.symm hne
  have ht1 := h.turn (mem_row hs hlast)
  have ht2 : trn O ((R.getD s []).getLastD 0) ≠ (k : Int) := fun e => hne ((trn_eq h.nod hk).1 e)
  have ht3 : trn O (O.getD k 0) = (k : Int) := (trn_eq h.nod hk).2 rfl
  have hin : trn O (O.getD k 0) ∈ turnsOf O (R.getD s []).dropLast := by
    unfold turnsOf
    rw [List.mem_reverse]
    exact List.mem_map.2 ⟨_, hdl, rfl⟩
  have := inW_pos hin (x := trn O ((R.getD s []).getLastD 0)) (by omega)
  omega

theorem free_stop {O : List Int} : ∀ {n : Nat} {R : List (List Int)} {k : Nat}, (freeR O n R k).2 = k + n ∨ topR (freeR O n R k).1 (O.getD (freeR O n R k).2 0) = none
  | 0, R, k => Or.inl rfl
  | n + 1, R, k => by
    simp only [freeR]
    cases h : topR R (O.getD k 0) with
    | none => exact Or.inr h
    | some s =>
      rcases free_stop (O := O) (n := n) (R := R.set s (R.getD s []).dropLast) (k := k + 1) with e | e
      · exact Or.inl (by rw [e]; omega)
      · exact Or.inr e

theorem free_done {O : List Int} {R : List (List Int)} {k : Nat} (h : StO O R k) : blkP (pilesOf O (freeR O (O.length - k) R k).1) = 0 ↔ (freeR O (O.length - k) R k).2 = O.length := by
  have hkl := h.kl
  obtain ⟨h1, h2, h3⟩ := free_eq (n := O.length - k) h (by omega)
  have hle := h2.kl
  constructor
  · intro e
    rcases free_stop (O := O) (n := O.length - k) (R := R) (k := k) with hs | hs
    · omega
    · by_cases hl : (freeR O (O.length - k) R k).2 < O.length
      · have := blk_pos h2 hl hs
        omega
      · omega
  · intro e
    rw [e] at h2
    exact blk_zero h2

/-- The turns to the order's rest are the turns to the order, less as many as have gone. -/
theorem trn_drop {O : List Int} {k : Nat} {x : Int} (hk : k ≤ O.length) (hx : ∀ i, i < k → O.getD i 0 ≠ x) : trn (O.drop k) x = trn O x - k := by
  have hm : x ∉ O.take k := fun e => by
    obtain ⟨i, hi, e2⟩ := List.mem_iff_getElem.1 e
    rw [List.length_take] at hi
    rw [List.getElem_take] at e2
    exact hx i (by omega) (by rw [getD_lt (show i < O.length by omega)]; exact e2)
  have e : O.idxOf x = (O.drop k).idxOf x + k := by
    conv => lhs; rw [← List.take_append_drop k O]
    rw [List.idxOf_append, if_neg hm, List.length_take, Nat.min_eq_left hk]
  unfold trn
  omega
theorem inW_map (c : Int) : ∀ L : List Int, inW (L.map (fun y => y - c)) = inW L
  | [] => rfl
  | x :: L => by
    have ih := inW_map c L
    have : ((L.map (fun y => y - c)).any fun y => decide (y < x - c)) = L.any fun y => decide (y < x) := by
      rw [List.any_map]
      congr 1
      funext y
      simp only [Function.comp]
      exact decide_eq_decide.2 (by omega)
    simp only [List.map_cons, inW, ih, this]
theorem blk_drop {O : List Int} {R : List (List Int)} {k : Nat} (h : StO O R k) : blkP (pilesOf (O.drop k) R) = blkP (pilesOf O R) := by
  have : ∀ r, r ∈ R → inW (turnsOf (O.drop k) r) = inW (turnsOf O r) := fun r hr => by
    have e : turnsOf (O.drop k) r = (turnsOf O r).map (fun y => y - (k : Int)) := by
      unfold turnsOf
      rw [← List.map_reverse, ← List.map_reverse, List.map_map]
      refine List.map_congr_left fun x hx => ?_
      rw [List.mem_reverse] at hx
      exact trn_drop h.kl fun i hi e => h.out i hi (e ▸ List.mem_flatten.2 ⟨r, hr, hx⟩)
    rw [e, inW_map]
  unfold blkP pilesOf
  rw [List.map_map, List.map_map]
  congr 1
  exact List.map_congr_left this

theorem shift_piles {O : List Int} {R : List (List Int)} {a b : Nat} (ha : a < R.length) (hb : b < R.length) (hab : a ≠ b) (hl : 0 < (R.getD a []).length) : shiftP (pilesOf O R) a b = pilesOf O (shiftY R a b) := by
  unfold shiftP shiftY
  rw [rowset_ne (fun e => hab e.symm), piles_get O ha, piles_get O hb, turns_top O hl, piles_set, piles_set]
  have e : turnsOf O (R.getD b [] ++ [(R.getD a []).getLastD 0]) = trn O ((R.getD a []).getLastD 0) :: turnsOf O (R.getD b []) := by simp [turnsOf]
  rw [e]
  exact List.set_comm _ _ hab

/-- What LeastShuffles takes. -/
structure SmY (H : Int) (R : List (List Int)) (O : List Int) (m : Int) : Prop where
  ok : YOk H R
  three : R.length ≤ 3
  seven : R.flatten.length ≤ 7
  ol : O.length ≤ 7
  nod : O.Nodup
  inn : ∀ x, x ∈ O → x ∈ R.flatten
  m0 : 0 ≤ m
  m8 : m ≤ 8
theorem SmY.st {H : Int} {R : List (List Int)} {O : List Int} {m : Int} (h : SmY H R O m) : StO O R 0 :=
  ⟨h.nod, Nat.zero_le _, fun i _ hi => h.inn _ (by rw [getD_lt hi]; exact List.getElem_mem hi), fun i hi => absurd hi (Nat.not_lt_zero i), h.ok.one⟩

open Classical in
noncomputable def leastV (H : Int) (R : List (List Int)) (O : List Int) (m : Int) : Int × Bool :=
  if SmY H R O m then match (List.range (m.toNat + 1)).find? (fun n => canP H O.length n (pilesOf O R) 0) with
    | some n => ((n : Int), true)
    | none => (-1, false)
  else (-1, false)
theorem least_bad {H : Int} {R : List (List Int)} {O : List Int} {m : Int} (h : ¬ SmY H R O m) : leastV H R O m = (-1, false) := by rw [leastV, if_neg h]
theorem least_none {H : Int} {R : List (List Int)} {O : List Int} {m : Int} (hn : ∀ n : Nat, (n : Int) ≤ m → canP H O.length n (pilesOf O R) 0 = false) : leastV H R O m = (-1, false) := by
  rw [leastV]
  split
  · rename_i h
    have h0 := h.m0
    have : (List.range (m.toNat + 1)).find? (fun n => canP H O.length n (pilesOf O R) 0) = none := by
      rw [List.find?_eq_none]
      intro n hn'
      rw [List.mem_range] at hn'
      rw [hn n (by omega)]
      simp
    rw [this]
  · rfl
theorem least_some {H : Int} {R : List (List Int)} {O : List Int} {m : Int} {n : Nat} (h : SmY H R O m) (h1 : (n : Int) ≤ m) (h2 : canP H O.length n (pilesOf O R) 0 = true) (h3 : ∀ j, j < n → canP H O.length j (pilesOf O R) 0 = false) : leastV H R O m = ((n : Int), true) := by
  rw [leastV, if_pos h]
  have : (List.range (m.toNat + 1)).find? (fun n => canP H O.length n (pilesOf O R) 0) = some n := by
    rw [List.find?_range_eq_some]
    exact ⟨h2, List.mem_range.2 (by omega), fun j hj => by rw [h3 j hj]; rfl⟩
  rw [this]
theorem can_low {H : Int} {R : List (List Int)} {O : List Int} {n : Nat} (h : StO O R 0) (hn : n < blkP (pilesOf O R)) : canP H O.length n (pilesOf O R) 0 = false := by
  obtain ⟨h1, _, h3⟩ := free_eq (n := O.length - 0) h (by omega)
  exact can_less (by rw [h1, h3]; exact hn)
theorem least_got {H : Int} {R : List (List Int)} {O : List Int} {m : Int} {z : Int} (h : leastV H R O m = (z, true)) : SmY H R O m ∧ ∃ n : Nat, z = (n : Int) ∧ z ≤ m ∧ canP H O.length n (pilesOf O R) 0 = true ∧ ∀ j, j < n → canP H O.length j (pilesOf O R) 0 = false := by
  rw [leastV] at h
  split at h
  · rename_i hs
    refine ⟨hs, ?_⟩
    split at h
    · rename_i n hf
      rw [List.find?_range_eq_some] at hf
      obtain ⟨h1, h2, h3⟩ := hf
      simp only [Prod.mk.injEq, and_true] at h
      have := List.mem_range.1 h2
      have := hs.m0
      exact ⟨n, h.symm, by omega, h1, fun j hj => by simpa using h3 j hj⟩
    · simp at h
  · simp at h
theorem least_not {H : Int} {R : List (List Int)} {O : List Int} {m : Int} (h : (leastV H R O m).2 = false) : (leastV H R O m).1 = -1 := by
  rw [leastV] at h ⊢
  split at h
  · rename_i hs
    rw [if_pos hs]
    split at h
    · cases h
    · rfl
  · rename_i hs
    rw [if_neg hs]

end Go.Proofs.Ytdiifkeebgdfkaa
