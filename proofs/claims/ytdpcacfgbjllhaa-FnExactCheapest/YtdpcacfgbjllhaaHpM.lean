/- Heaps as lists: what a step up and a step down keep; the first is the least. Mathematics; no statement about the program stands here. -/
import Derived.Test.YtdpcacfgbjllhaaBase
namespace Go.Proofs.Ytdpcacfgbjllhaa

abbrev Rc := Int × Int
def rlt (a b : Rc) : Prop := a.1 < b.1 ∨ (a.1 = b.1 ∧ a.2 < b.2)
def swp (L : List Rc) (i j : Nat) : List Rc := (L.set i (L.getD j (0, 0))).set j (L.getD i (0, 0))
theorem swp_len (L : List Rc) (i j : Nat) : (swp L i j).length = L.length := by simp [swp]
theorem set_getD {L : List Rc} {k r : Nat} (hk : k < L.length) (v : Rc) : (L.set k v).getD r (0, 0) = if r = k then v else L.getD r (0, 0) := by
  rw [List.getD_eq_getElem?_getD, List.getElem?_set]
  by_cases e : k = r
  · rw [if_pos e, if_pos hk, if_pos e.symm]; rfl
  · rw [if_neg e, if_neg (fun h => e h.symm), List.getD_eq_getElem?_getD]
theorem swp_at {L : List Rc} {i j : Nat} (hi : i < L.length) (hj : j < L.length) (r : Nat) : (swp L i j).getD r (0, 0) = if r = j then L.getD i (0, 0) else if r = i then L.getD j (0, 0) else L.getD r (0, 0) := by
  unfold swp
  rw [set_getD (by rw [List.length_set]; exact hj), set_getD hi]
theorem swp_mem {L : List Rc} {i j : Nat} (hi : i < L.length) (hj : j < L.length) (x : Rc) : x ∈ swp L i j ↔ x ∈ L := by
  have key : ∀ (K : List Rc), K.length = L.length → (x ∈ K ↔ ∃ r, r < L.length ∧ K.getD r (0, 0) = x) := fun K hK => by
    rw [List.mem_iff_getElem]
    constructor
    · rintro ⟨r, hr, e⟩
      exact ⟨r, by omega, by rw [getD_lt hr]; exact e⟩
    · rintro ⟨r, hr, e⟩
      exact ⟨r, by omega, by rw [← getD_lt (d := (0, 0))]; exact e⟩
  rw [key _ (swp_len L i j), key L rfl]
  constructor
  · rintro ⟨r, hr, e⟩
    rw [swp_at hi hj] at e
    by_cases h1 : r = j
    · rw [if_pos h1] at e; exact ⟨i, hi, e⟩
    · rw [if_neg h1] at e
      by_cases h2 : r = i
      · rw [if_pos h2] at e; exact ⟨j, hj, e⟩
      · rw [if_neg h2] at e; exact ⟨r, hr, e⟩
  · rintro ⟨r, hr, e⟩
    by_cases h1 : r = i
    · exact ⟨j, hj, by rw [swp_at hi hj, if_pos rfl, ← h1]; exact e⟩
    · by_cases h2 : r = j
      · refine ⟨i, hi, ?_⟩
        rw [swp_at hi hj]
        by_cases h3 : i = j
        · rw [if_pos h3, h3, ← h2]; exact e
        · rw [if_neg h3, if_pos rfl, ← h2]; exact e
      · exact ⟨r, hr, by rw [swp_at hi hj, if_neg h2, if_neg h1]; exact e⟩

/-- The first n are a heap. -/
def Hp (L : List Rc) (n : Nat) : Prop := ∀ c, 0 < c → c < n → ¬ rlt (L.getD c (0, 0)) (L.getD ((c - 1) / 2) (0, 0))
theorem Hp.least {L : List Rc} {n : Nat} (h : Hp L n) : ∀ c, c < n → ¬ rlt (L.getD c (0, 0)) (L.getD 0 (0, 0)) := by
  intro c
  induction c using Nat.strongRecOn with
  | _ c ih =>
    intro hc
    by_cases h0 : c = 0
    · rw [h0]; unfold rlt; omega
    · have h1 := h c (by omega) hc
      have h2 := ih ((c - 1) / 2) (by omega) (by omega)
      unfold rlt at *
      omega
/-- A heap but for j, which may be less than what lies above it. -/
def HpUp (L : List Rc) (n j : Nat) : Prop := (∀ c, 0 < c → c < n → c ≠ j → ¬ rlt (L.getD c (0, 0)) (L.getD ((c - 1) / 2) (0, 0))) ∧ (∀ c, 0 < c → c < n → (c - 1) / 2 = j → 0 < j → ¬ rlt (L.getD c (0, 0)) (L.getD ((j - 1) / 2) (0, 0)))
theorem hpUp_push {L : List Rc} (h : Hp L L.length) (x : Rc) : HpUp (L ++ [x]) (L.length + 1) L.length := by
  have hg : ∀ c, c < L.length → (L ++ [x]).getD c (0, 0) = L.getD c (0, 0) := fun c hc => by
    rw [List.getD_eq_getElem?_getD, List.getElem?_append_left hc, List.getD_eq_getElem?_getD]
  refine ⟨fun c h0 hc hne => ?_, fun c h0 hc he hj => ?_⟩
  · rw [hg c (by omega), hg _ (by omega)]
    exact h c h0 (by omega)
  · omega
theorem HpUp.stop {L : List Rc} {n j : Nat} (h : HpUp L n j) (hs : j = 0 ∨ ¬ rlt (L.getD j (0, 0)) (L.getD ((j - 1) / 2) (0, 0))) : Hp L n := by
  intro c h0 hc
  by_cases e : c = j
  · rcases hs with hs | hs
    · omega
    · rw [e]; exact hs
  · exact h.1 c h0 hc e
theorem HpUp.next {L : List Rc} {n j : Nat} (h : HpUp L n j) (hn : n ≤ L.length) (hj : 0 < j) (hjn : j < n) (hl : rlt (L.getD j (0, 0)) (L.getD ((j - 1) / 2) (0, 0))) : HpUp (swp L ((j - 1) / 2) j) n ((j - 1) / 2) := by
  have hi : (j - 1) / 2 < L.length := by omega
  have hjl : j < L.length := by omega
  obtain ⟨i, ei⟩ : ∃ i, i = (j - 1) / 2 := ⟨_, rfl⟩
  rw [← ei] at hl hi ⊢
  refine ⟨fun c h0 hc hne => ?_, fun c h0 hc he hi0 => ?_⟩
  · rw [swp_at hi hjl, swp_at hi hjl]
    by_cases e1 : c = j
    · rw [if_pos e1, if_neg (by omega), if_pos (by omega)]
      unfold rlt at *; omega
    · rw [if_neg e1, if_neg hne]
      by_cases e2 : (c - 1) / 2 = j
      · rw [if_pos e2]
        have h2 := h.2 c h0 hc e2 hj
        rw [← ei] at h2
        exact h2
      · rw [if_neg e2]
        have h1 := h.1 c h0 hc e1
        by_cases e3 : (c - 1) / 2 = i
        · rw [if_pos e3]
          rw [e3] at h1
          unfold rlt at *; omega
        · rw [if_neg e3]; exact h1
  · rw [swp_at hi hjl, swp_at hi hjl]
    have hpi := h.1 i hi0 (by omega) (by omega)
    rw [if_neg (show ¬ (i - 1) / 2 = j by omega), if_neg (show ¬ (i - 1) / 2 = i by omega)]
    by_cases e1 : c = j
    · rw [if_pos e1]; exact hpi
    · rw [if_neg e1, if_neg (show ¬ c = i by omega)]
      have h1 := h.1 c h0 hc e1
      rw [he] at h1
      unfold rlt at *; omega
/-- A heap but for what lies below i. -/
def HpDn (L : List Rc) (n i : Nat) : Prop := (∀ c, 0 < c → c < n → (c - 1) / 2 ≠ i → ¬ rlt (L.getD c (0, 0)) (L.getD ((c - 1) / 2) (0, 0))) ∧ (∀ c, 0 < c → c < n → (c - 1) / 2 = i → 0 < i → ¬ rlt (L.getD c (0, 0)) (L.getD ((i - 1) / 2) (0, 0)))
theorem hpDn_pop {L : List Rc} {n : Nat} (h : Hp L (n + 1)) (hn : n + 1 ≤ L.length) : HpDn (swp L 0 n) n 0 := by
  refine ⟨fun c h0 hc hne => ?_, fun c h0 hc he hi => by omega⟩
  rw [swp_at (by omega) (by omega), swp_at (by omega) (by omega), if_neg (by omega), if_neg (by omega), if_neg (by omega), if_neg hne]
  exact h c h0 (by omega)
theorem HpDn.stop {L : List Rc} {n i : Nat} (h : HpDn L n i) (hs : ∀ c, 0 < c → c < n → (c - 1) / 2 = i → ¬ rlt (L.getD c (0, 0)) (L.getD i (0, 0))) : Hp L n := by
  intro c h0 hc
  by_cases e : (c - 1) / 2 = i
  · rw [e]; exact hs c h0 hc e
  · exact h.1 c h0 hc e
theorem HpDn.next {L : List Rc} {n i j : Nat} (h : HpDn L n i) (hn : n ≤ L.length) (hjn : j < n) (hj : (j - 1) / 2 = i) (hj0 : 0 < j) (hl : rlt (L.getD j (0, 0)) (L.getD i (0, 0))) (hm : ∀ c, 0 < c → c < n → (c - 1) / 2 = i → ¬ rlt (L.getD c (0, 0)) (L.getD j (0, 0))) : HpDn (swp L i j) n j := by
  have hi : i < L.length := by omega
  have hjl : j < L.length := by omega
  refine ⟨fun c h0 hc hne => ?_, fun c h0 hc he hi0 => ?_⟩
  · rw [swp_at hi hjl, swp_at hi hjl, if_neg hne]
    by_cases e1 : c = j
    · rw [if_pos e1, if_pos (by rw [e1]; exact hj)]
      unfold rlt at *; omega
    · rw [if_neg e1]
      by_cases e2 : (c - 1) / 2 = i
      · rw [if_pos e2, if_neg (by omega)]
        exact hm c h0 hc e2
      · rw [if_neg e2]
        have h1 := h.1 c h0 hc e2
        by_cases e3 : c = i
        · rw [if_pos e3]
          have h2 := h.2 j hj0 hjn hj (by omega)
          rw [e3]
          exact h2
        · rw [if_neg e3]; exact h1
  · rw [swp_at hi hjl, swp_at hi hjl, if_neg (by omega), if_neg (by omega), hj, if_neg (by omega), if_pos rfl]
    have h1 := h.1 c h0 hc (by omega)
    rw [he] at h1
    exact h1

end Go.Proofs.Ytdpcacfgbjllhaa
