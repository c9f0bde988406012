/- Stowage in numbers: bays, spots, stacks, the seven reasons, the code that is told; shifts; what stands behind a port. No statement about the program stands here. -/
import Derived.Test.YtnfdokcpjcnknaaRStow
import Derived.Test.YtnfdokcpjcnknaaRHatch
import Derived.Test.YtnfdokcpjcnknaaBxI
namespace Go.Proofs.Ytnfdokcpjcnknaa
open Go.RowKit

def sbx (x : StowT) : BoxT := (x.1, x.2.1, x.2.2.1, x.2.2.2.1, x.2.2.2.2.1, x.2.2.2.2.2.1)
def ssp (x : StowT) : I3 := (x.2.2.2.2.2.2.1, x.2.2.2.2.2.2.2.1, x.2.2.2.2.2.2.2.2)
def mkS (b : BoxT) (s : I3) : StowT := (b.1, b.2.1, b.2.2.1, b.2.2.2.1, b.2.2.2.2.1, b.2.2.2.2.2, s.1, s.2.1, s.2.2)
theorem sbx_mk (b : BoxT) (s : I3) : sbx (mkS b s) = b := rfl
theorem ssp_mk (b : BoxT) (s : I3) : ssp (mkS b s) = s := rfl
def nmS (x : StowT) : ByteArray := x.1
def coS (x : StowT) : Bool := x.2.2.2.1
def frS (x : StowT) : Int := x.2.2.2.2.1
def toS (x : StowT) : Int := x.2.2.2.2.2.1
def stO (L : List StowT) (i : Nat) : StowT := L.getD i default
def hO (H : List HatchT) (b : Int) : HatchT := H.getD b.toNat default

theorem stO_append {A B : List StowT} {i : Nat} (h : i < A.length) : stO (A ++ B) i = stO A i := by
  simp [stO, List.getD, List.getElem?_append_left h]
theorem stO_get {L : List StowT} {i : Nat} (h : i < L.length) : stO L i = L[i] := by simp [stO, List.getD, List.getElem?_eq_getElem h]
theorem stO_mem {L : List StowT} {i : Nat} (h : i < L.length) : stO L i ∈ L := by rw [stO_get h]; exact List.getElem_mem _
theorem mem_stO {L : List StowT} {x : StowT} (h : x ∈ L) : ∃ i, i < L.length ∧ stO L i = x := by
  obtain ⟨i, hi, e⟩ := List.mem_iff_getElem.1 h
  exact ⟨i, hi, by rw [stO_get hi, e]⟩

/-- A bay that is so; bays that are so. -/
def hat1 (h : HatchT) : Bool := inB h.1 1 6 && inB h.2.1 1 6 && inB h.2.2.1 0 1000000 && inB h.2.2.2 0 36
def hatB (H : List HatchT) : Bool := H.all hat1 && inB H.length 1 6
theorem hatB_bad {H : List HatchT} {i : Nat} (hi : i < H.length) (h : hat1 (H.getD i default) = false) : hatB H = false := by rw [hatB, all_false hi h]; rfl
theorem hatB_all {H : List HatchT} (h : ∀ i, i < H.length → hat1 (H.getD i default) = true) : hatB H = inB H.length 1 6 := by rw [hatB, all_true h]; rfl
theorem hatB_len {H : List HatchT} (h : hatB H = true) : 1 ≤ H.length ∧ H.length ≤ 6 := by
  simp only [hatB, Bool.and_eq_true] at h
  have := inB_true h.2
  omega
theorem hatB_at {H : List HatchT} (h : hatB H = true) {i : Nat} (hi : i < H.length) : hat1 (H.getD i default) = true := by
  simp only [hatB, Bool.and_eq_true] at h
  exact all_at h.1 hi
theorem hatB_out {H : List HatchT} (h : inB H.length 1 6 = false) : hatB H = false := by rw [hatB, h, Bool.and_false]

/-- How many of the first k are so. -/
def cntTo (p : Nat → Bool) : Nat → Nat
  | 0 => 0
  | k + 1 => cntTo p k + (if p k = true then 1 else 0)
theorem cntTo_le (p : Nat → Bool) : ∀ k, cntTo p k ≤ k
  | 0 => Nat.le_refl _
  | k + 1 => by
    have := cntTo_le p k
    rw [cntTo]
    split <;> omega
theorem cntTo_hit {p : Nat → Bool} {k : Nat} (h : p k = true) : cntTo p (k + 1) = cntTo p k + 1 := by rw [cntTo, if_pos h]
theorem cntTo_miss {p : Nat → Bool} {k : Nat} (h : p k = false) : cntTo p (k + 1) = cntTo p k := by rw [cntTo, if_neg (by rw [h]; decide)]; rfl
theorem cntTo_mono {p q : Nat → Bool} {n : Nat} (h : ∀ i, i < n → p i = true → q i = true) : ∀ k, k ≤ n → cntTo p k ≤ cntTo q k
  | 0, _ => Nat.le_refl _
  | k + 1, hk => by
    have ih := cntTo_mono h k (by omega)
    have h1 := h k (by omega)
    rw [cntTo, cntTo]
    by_cases e : p k = true
    · rw [if_pos e, if_pos (h1 e)]
      omega
    · rw [if_neg e]
      split <;> omega
theorem cntTo_step (p : Nat → Bool) {m n : Nat} (h : m ≤ n) : cntTo p m ≤ cntTo p n := by
  induction n with
  | zero => have : m = 0 := by omega
            rw [this]; exact Nat.le_refl _
  | succ n ih =>
    by_cases e : m = n + 1
    · rw [e]; exact Nat.le_refl _
    · have := ih (by omega)
      rw [cntTo]
      split <;> omega

/-- Whether something stands at a spot; where the first such is. -/
def hasB (L : List StowT) (s : I3) : Bool := decide (∃ k, k < L.length ∧ ssp (stO L k) = s)
def atV (L : List StowT) (s : I3) : Int := match (List.range L.length).find? (fun k => decide (ssp (stO L k) = s)) with
  | some k => (k : Int)
  | none => -1
theorem hasB_hit {L : List StowT} {s : I3} {k : Nat} (h : k < L.length) (e : ssp (stO L k) = s) : hasB L s = true := by
  simp only [hasB, decide_eq_true_eq]
  exact ⟨k, h, e⟩
theorem hasB_none {L : List StowT} {s : I3} (h : ∀ k, k < L.length → ssp (stO L k) ≠ s) : hasB L s = false := by
  simp only [hasB, decide_eq_false_iff_not]
  rintro ⟨k, hk, e⟩
  exact h k hk e
theorem find_first {p : Nat → Bool} {n i : Nat} (hi : i < n) (hp : p i = true) (ha : ∀ r, r < i → p r = false) : (List.range n).find? p = some i := by
  rw [List.find?_range_eq_some]
  exact ⟨hp, by simpa using hi, fun j hj => by rw [ha j hj]; rfl⟩
theorem find_nothing {p : Nat → Bool} {n : Nat} (ha : ∀ r, r < n → p r = false) : (List.range n).find? p = none := by
  rw [List.find?_eq_none]
  intro x hx
  rw [ha x (by simpa using hx)]
  simp
theorem atV_hit {L : List StowT} {s : I3} {k : Nat} (h : k < L.length) (e : ssp (stO L k) = s) (ha : ∀ r, r < k → ssp (stO L r) ≠ s) : atV L s = k := by
  rw [atV, find_first h (by simp [e]) (fun r hr => by simp [ha r hr])]
theorem atV_none {L : List StowT} {s : I3} (h : ∀ k, k < L.length → ssp (stO L k) ≠ s) : atV L s = -1 := by
  rw [atV, find_nothing (fun r hr => by simp [h r hr])]
theorem atV_has {L : List StowT} {s : I3} (h : hasB L s = true) : ∃ k, k < L.length ∧ ssp (stO L k) = s ∧ atV L s = (k : Int) ∧ ∀ r, r < k → ssp (stO L r) ≠ s := by
  simp only [hasB, decide_eq_true_eq] at h
  obtain ⟨k, hk, e⟩ := h
  cases hf : (List.range L.length).find? (fun k => decide (ssp (stO L k) = s)) with
  | none =>
    rw [List.find?_eq_none] at hf
    have := hf k (by simpa using hk)
    simp [e] at this
  | some i =>
    have hf' := hf
    rw [List.find?_range_eq_some] at hf
    obtain ⟨h1, h2, h3⟩ := hf
    refine ⟨i, by simpa using h2, by simpa using h1, by rw [atV, hf'], fun r hr => ?_⟩
    have := h3 r hr
    simpa using this
theorem atV_not {L : List StowT} {s : I3} (h : hasB L s = false) : atV L s = -1 := by
  refine atV_none fun k hk e => ?_
  rw [hasB_hit hk e] at h
  cases h
theorem atV_bd (L : List StowT) (s : I3) : -1 ≤ atV L s ∧ atV L s < L.length := by
  cases h : hasB L s with
  | true =>
    obtain ⟨k, hk, _, e, _⟩ := atV_has h
    rw [e]
    omega
  | false => rw [atV_not h]; omega

/-- The first t tiers of a stack: the first stow that stands at each. -/
def tierO (L : List StowT) (b r : Int) (t : Nat) : List BoxT := if hasB L (b, r, (t : Int)) = true then [sbx (stO L (atV L (b, r, (t : Int))).toNat)] else []
def stkT (L : List StowT) (b r : Int) : Nat → List BoxT
  | 0 => []
  | t + 1 => stkT L b r t ++ tierO L b r t
def stkL (L : List StowT) (b r : Int) : List BoxT := stkT L b r 20
theorem tierO_len (L : List StowT) (b r : Int) (t : Nat) : (tierO L b r t).length ≤ 1 := by unfold tierO; split <;> simp
theorem stkT_len (L : List StowT) (b r : Int) : ∀ t, (stkT L b r t).length ≤ t
  | 0 => Nat.le_refl _
  | t + 1 => by
    have := stkT_len L b r t
    have := tierO_len L b r t
    rw [stkT, List.length_append]
    omega

/-- The seven reasons. -/
def spIn (H : List HatchT) (s : I3) : Bool := inB s.1 0 ((H.length : Int) - 1) && inB s.2.1 0 ((hO H s.1).1 - 1) && inB s.2.2 0 ((hO H s.1).2.1 - 1)
def keepS (y x : StowT) : Bool := keepB (boxT (sbx y)) (boxT (sbx x)) (sbx y).2.2.1 (sbx x).2.2.1 (ssp y).1 (ssp y).2.1 (ssp y).2.2 (ssp x).1 (ssp x).2.1 (ssp x).2.2
def colB (L : List StowT) (b : Int) (i : Nat) : Bool := decide ((ssp (stO L i)).1 = b) && coS (stO L i)
def f1 (L : List StowT) (i : Nat) : Bool := !boxT (sbx (stO L i))
def f2 (L : List StowT) (i : Nat) : Bool := decide (∃ k, k < i ∧ (nmS (stO L k) = nmS (stO L i) ∨ ssp (stO L k) = ssp (stO L i)))
def f3 (H : List HatchT) (L : List StowT) (i : Nat) : Bool := !spIn H (ssp (stO L i))
def f4 (L : List StowT) (i : Nat) : Bool := decide (0 < (ssp (stO L i)).2.2) && !hasB L ((ssp (stO L i)).1, (ssp (stO L i)).2.1, (ssp (stO L i)).2.2 - 1)
def f5 (H : List HatchT) (L : List StowT) (i : Nat) : Bool := !stackB (stkL L (ssp (stO L i)).1 (ssp (stO L i)).2.1) (hO H (ssp (stO L i)).1).2.2.1
def f6 (H : List HatchT) (L : List StowT) (i : Nat) : Bool := coS (stO L i) && decide ((hO H (ssp (stO L i)).1).2.2.2 < (cntTo (colB L (ssp (stO L i)).1) L.length : Int))
def f7 (L : List StowT) (i : Nat) : Bool := decide (∃ k, k < i ∧ keepS (stO L k) (stO L i) = false)
def failC (H : List HatchT) (L : List StowT) (c i : Nat) : Bool :=
  if c = 1 then f1 L i else if c = 2 then f2 L i else if c = 3 then f3 H L i else if c = 4 then f4 L i else if c = 5 then f5 H L i else if c = 6 then f6 H L i else f7 L i

/-- What is told of a plan. -/
def stowGo (H : List HatchT) (L : List StowT) : List Nat → Int × Int
  | [] => (0, 0)
  | c :: cs => match (List.range L.length).find? (failC H L c) with
    | some i => ((c : Int), (i : Int))
    | none => stowGo H L cs
def stowC (H : List HatchT) (L : List StowT) : Int × Int := if hatB H = true ∧ L.length ≤ 40 then stowGo H L [1, 2, 3, 4, 5, 6, 7] else (1, 0)
theorem stowC_bad {H : List HatchT} {L : List StowT} (h : hatB H = false ∨ 40 < L.length) : stowC H L = (1, 0) := by
  rw [stowC, if_neg]
  rintro ⟨h1, h2⟩
  rcases h with h | h
  · rw [h] at h1; cases h1
  · omega
theorem stowGo_pass {H : List HatchT} {L : List StowT} {c : Nat} {cs : List Nat} (h : ∀ i, i < L.length → failC H L c i = false) : stowGo H L (c :: cs) = stowGo H L cs := by
  rw [stowGo, find_nothing h]
theorem stowGo_hit {H : List HatchT} {L : List StowT} {c i : Nat} {cs : List Nat} (hi : i < L.length) (h : failC H L c i = true) (ha : ∀ r, r < i → failC H L c r = false) : stowGo H L (c :: cs) = ((c : Int), (i : Int)) := by
  rw [stowGo, find_first hi h ha]
theorem stowC_hit {H : List HatchT} {L : List StowT} {c i : Nat} (hh : hatB H = true) (hl : L.length ≤ 40) (hc : 1 ≤ c) (hc7 : c ≤ 7) (hi : i < L.length) (h : failC H L c i = true) (ha : ∀ r, r < i → failC H L c r = false) (hp : ∀ d, 1 ≤ d → d < c → ∀ r, r < L.length → failC H L d r = false) : stowC H L = ((c : Int), (i : Int)) := by
  rw [stowC, if_pos ⟨hh, hl⟩]
  have hcc : c = 1 ∨ c = 2 ∨ c = 3 ∨ c = 4 ∨ c = 5 ∨ c = 6 ∨ c = 7 := by omega
  rcases hcc with rfl | rfl | rfl | rfl | rfl | rfl | rfl
  · rw [stowGo_hit hi h ha]
  · rw [stowGo_pass (hp 1 (by omega) (by omega)), stowGo_hit hi h ha]
  · rw [stowGo_pass (hp 1 (by omega) (by omega)), stowGo_pass (hp 2 (by omega) (by omega)), stowGo_hit hi h ha]
  · rw [stowGo_pass (hp 1 (by omega) (by omega)), stowGo_pass (hp 2 (by omega) (by omega)), stowGo_pass (hp 3 (by omega) (by omega)), stowGo_hit hi h ha]
  · rw [stowGo_pass (hp 1 (by omega) (by omega)), stowGo_pass (hp 2 (by omega) (by omega)), stowGo_pass (hp 3 (by omega) (by omega)), stowGo_pass (hp 4 (by omega) (by omega)), stowGo_hit hi h ha]
  · rw [stowGo_pass (hp 1 (by omega) (by omega)), stowGo_pass (hp 2 (by omega) (by omega)), stowGo_pass (hp 3 (by omega) (by omega)), stowGo_pass (hp 4 (by omega) (by omega)), stowGo_pass (hp 5 (by omega) (by omega)), stowGo_hit hi h ha]
  · rw [stowGo_pass (hp 1 (by omega) (by omega)), stowGo_pass (hp 2 (by omega) (by omega)), stowGo_pass (hp 3 (by omega) (by omega)), stowGo_pass (hp 4 (by omega) (by omega)), stowGo_pass (hp 5 (by omega) (by omega)), stowGo_pass (hp 6 (by omega) (by omega)), stowGo_hit hi h ha]
theorem stowC_well {H : List HatchT} {L : List StowT} (hh : hatB H = true) (hl : L.length ≤ 40) (hp : ∀ d, 1 ≤ d → d ≤ 7 → ∀ r, r < L.length → failC H L d r = false) : stowC H L = (0, 0) := by
  rw [stowC, if_pos ⟨hh, hl⟩]
  rw [stowGo_pass (hp 1 (by omega) (by omega)), stowGo_pass (hp 2 (by omega) (by omega)), stowGo_pass (hp 3 (by omega) (by omega)), stowGo_pass (hp 4 (by omega) (by omega)), stowGo_pass (hp 5 (by omega) (by omega)), stowGo_pass (hp 6 (by omega) (by omega)), stowGo_pass (hp 7 (by omega) (by omega)), stowGo]
/-- Each plan has its code in one of these ways. -/
theorem stowC_cases (H : List HatchT) (L : List StowT) : ((hatB H = false ∨ 40 < L.length) ∧ stowC H L = (1, 0)) ∨
    (hatB H = true ∧ L.length ≤ 40 ∧ ∃ c i, 1 ≤ c ∧ c ≤ 7 ∧ i < L.length ∧ failC H L c i = true ∧ (∀ r, r < i → failC H L c r = false) ∧ (∀ d, 1 ≤ d → d < c → ∀ r, r < L.length → failC H L d r = false) ∧ stowC H L = ((c : Int), (i : Int))) ∨
    (hatB H = true ∧ L.length ≤ 40 ∧ (∀ d, 1 ≤ d → d ≤ 7 → ∀ r, r < L.length → failC H L d r = false) ∧ stowC H L = (0, 0)) := by
  by_cases h : hatB H = true ∧ L.length ≤ 40
  · obtain ⟨hh, hl⟩ := h
    refine Or.inr ?_
    have key : ∀ n, n ≤ 7 → (∀ d, 1 ≤ d → d ≤ n → ∀ r, r < L.length → failC H L d r = false) ∨ ∃ c i, 1 ≤ c ∧ c ≤ n ∧ i < L.length ∧ failC H L c i = true ∧ (∀ r, r < i → failC H L c r = false) ∧ (∀ d, 1 ≤ d → d < c → ∀ r, r < L.length → failC H L d r = false) := by
      intro n
      induction n with
      | zero => exact fun _ => Or.inl fun d h1 h2 => by omega
      | succ n ih =>
        intro hn
        rcases ih (by omega) with hall | ⟨c, i, h1, h2, r⟩
        · cases hf : (List.range L.length).find? (failC H L (n + 1)) with
          | none =>
            left
            intro d h1 h2 r hr
            by_cases e : d = n + 1
            · rw [List.find?_eq_none] at hf
              have := hf r (by simpa using hr)
              rw [e]
              simpa using this
            · exact hall d h1 (by omega) r hr
          | some i =>
            rw [List.find?_range_eq_some] at hf
            obtain ⟨g1, g2, g3⟩ := hf
            refine Or.inr ⟨n + 1, i, by omega, Nat.le_refl _, by simpa using g2, g1, fun r hr => by simpa using g3 r hr, fun d h1 h2 => hall d h1 (by omega)⟩
        · exact Or.inr ⟨c, i, h1, by omega, r⟩
    rcases key 7 (Nat.le_refl _) with hall | ⟨c, i, h1, h2, h3, h4, h5, h6⟩
    · exact Or.inr ⟨hh, hl, hall, stowC_well hh hl hall⟩
    · exact Or.inl ⟨hh, hl, c, i, h1, h2, h3, h4, h5, h6, stowC_hit hh hl h1 h2 h3 h4 h5 h6⟩
  · have h' : hatB H = false ∨ 40 < L.length := by
      cases e : hatB H with
      | false => exact Or.inl rfl
      | true => exact Or.inr (by rcases Nat.lt_or_ge 40 L.length with g | g; exact g; exact absurd ⟨e, g⟩ h)
    exact Or.inl ⟨h', stowC_bad h'⟩
/-- A plan that is well. -/
def wellB (H : List HatchT) (L : List StowT) : Bool := decide ((stowC H L).1 = 0)
theorem wellB_iff {H : List HatchT} {L : List StowT} : wellB H L = true ↔ (hatB H = true ∧ L.length ≤ 40 ∧ ∀ d, 1 ≤ d → d ≤ 7 → ∀ r, r < L.length → failC H L d r = false) := by
  constructor
  · intro h
    simp only [wellB, decide_eq_true_eq] at h
    rcases stowC_cases H L with ⟨_, e⟩ | ⟨_, _, c, i, h1, _, _, _, _, _, e⟩ | ⟨h1, h2, h3, _⟩
    · rw [e] at h; simp at h
    · rw [e] at h; simp at h; omega
    · exact ⟨h1, h2, h3⟩
  · rintro ⟨h1, h2, h3⟩
    rw [wellB, stowC_well h1 h2 h3]
    rfl
theorem stowC_well_snd {H : List HatchT} {L : List StowT} (h : wellB H L = true) : stowC H L = (0, 0) := by
  obtain ⟨h1, h2, h3⟩ := wellB_iff.1 h
  exact stowC_well h1 h2 h3
theorem stowC_bd (H : List HatchT) (L : List StowT) : 0 ≤ (stowC H L).1 ∧ (stowC H L).1 ≤ 7 := by
  rcases stowC_cases H L with ⟨_, e⟩ | ⟨_, _, c, i, h1, h2, _, _, _, _, e⟩ | ⟨_, _, _, e⟩ <;> rw [e] <;> constructor <;> (simp only []; omega)

/-- What is kept apart is kept from either side. -/
theorem apV_symm (a b : Int) : apV a b = apV b a := by
  cases h1 : inB a 0 9 with
  | false => rw [apV_out (Or.inl h1), apV_out (Or.inr h1)]
  | true =>
  cases h2 : inB b 0 9 with
  | false => rw [apV_out (Or.inr h2), apV_out (Or.inl h2)]
  | true =>
  rw [apV_in h1 h2, apV_in h2 h1, Int.mul_comm a b, Int.add_comm a b]
  have c1 : (a = 0 ∨ b = 0 ∨ a = b) ↔ (b = 0 ∨ a = 0 ∨ b = a) := by omega
  have c2 : (a = 1 ∨ b = 1) ↔ (b = 1 ∨ a = 1) := by omega
  simp only [c1, c2]
theorem keepB_symm (a b : Bool) (ca cb x y z x' y' z' : Int) : keepB a b ca cb x y z x' y' z' = keepB b a cb ca x' y' z' x y z := by
  unfold keepB
  rw [apV_symm ca cb, show (x - x').natAbs = (x' - x).natAbs by omega, show (y - y').natAbs = (y' - y).natAbs by omega, show (z - z').natAbs = (z' - z).natAbs by omega]
  have e : decide (x = x' ∧ y = y' ∧ z = z') = decide (x' = x ∧ y' = y ∧ z' = z) := by
    rw [decide_eq_decide]
    constructor <;> rintro ⟨h1, h2, h3⟩ <;> exact ⟨h1.symm, h2.symm, h3.symm⟩
  rw [e]
  cases a <;> cases b <;> cases spotB x y z <;> cases spotB x' y' z' <;> rfl
theorem keepS_symm (x y : StowT) : keepS x y = keepS y x := keepB_symm _ _ _ _ _ _ _ _ _ _

/-- The program's stack: each tier's boxes, all of them, of the first six tiers. -/
def pkO (L : List StowT) (b r : Int) (t : Nat) : Nat → List BoxT
  | 0 => []
  | k + 1 => pkO L b r t k ++ (if ssp (stO L k) = (b, r, (t : Int)) then [sbx (stO L k)] else [])
def pkT (L : List StowT) (b r : Int) : Nat → List BoxT
  | 0 => []
  | t + 1 => pkT L b r t ++ pkO L b r t L.length
/-- No two stand at one spot. -/
def apartL (L : List StowT) : Prop := ∀ i k, k < i → i < L.length → ssp (stO L k) ≠ ssp (stO L i)
theorem pkO_none {L : List StowT} {b r : Int} {t : Nat} : ∀ k, (∀ i, i < k → ssp (stO L i) ≠ (b, r, (t : Int))) → pkO L b r t k = []
  | 0, _ => rfl
  | k + 1, h => by rw [pkO, pkO_none k (fun i hi => h i (by omega)), if_neg (h k (by omega))]; rfl
theorem pkO_one {L : List StowT} {b r : Int} {t : Nat} {i : Nat} (ha : apartL L) (hi : i < L.length) (e : ssp (stO L i) = (b, r, (t : Int))) : ∀ k, k ≤ L.length → pkO L b r t k = if i < k then [sbx (stO L i)] else []
  | 0, _ => rfl
  | k + 1, hk => by
    rw [pkO, pkO_one ha hi e k (by omega)]
    by_cases h1 : i < k
    · have hne : ¬ ssp (stO L k) = (b, r, (t : Int)) := fun h => ha k i h1 (by omega) (e.trans h.symm)
      rw [if_pos h1, if_neg hne, if_pos (by omega)]
      rfl
    · by_cases h2 : i = k
      · subst h2
        rw [if_neg h1, if_pos e, if_pos (by omega)]
        rfl
      · have hne : ¬ ssp (stO L k) = (b, r, (t : Int)) := fun h => ha i k (by omega) hi (h.trans e.symm)
        rw [if_neg h1, if_neg hne, if_neg (by omega)]
        rfl
theorem pkO_tier {L : List StowT} {b r : Int} {t : Nat} (ha : apartL L) : pkO L b r t L.length = tierO L b r t := by
  unfold tierO
  cases h : hasB L (b, r, (t : Int)) with
  | true =>
    obtain ⟨k, hk, e, ev, _⟩ := atV_has h
    rw [if_pos rfl, ev, pkO_one ha hk e _ (Nat.le_refl _), if_pos hk]
    rfl
  | false =>
    rw [if_neg (by decide)]
    refine pkO_none _ fun i hi e => ?_
    rw [hasB_hit hi e] at h
    cases h
theorem pkT_stk {L : List StowT} {b r : Int} (ha : apartL L) : ∀ t, pkT L b r t = stkT L b r t
  | 0 => rfl
  | t + 1 => by rw [pkT, stkT, pkT_stk ha t, pkO_tier ha]
theorem stkT_more {L : List StowT} {b r : Int} {m : Nat} (h : ∀ t : Nat, m ≤ t → hasB L (b, r, (t : Int)) = false) : ∀ d, stkT L b r (m + d) = stkT L b r m
  | 0 => rfl
  | d + 1 => by
    rw [← Nat.add_assoc, stkT, stkT_more h d, tierO, if_neg (by rw [h (m + d) (by omega)]; decide), List.append_nil]
theorem pk_stk {L : List StowT} {b r : Int} (ha : apartL L) (ht : ∀ i, i < L.length → (ssp (stO L i)).2.2 < 6) : pkT L b r 6 = stkL L b r := by
  rw [pkT_stk ha]
  refine (stkT_more (m := 6) (fun t h => hasB_none fun k hk e => ?_) 14).symm
  have := ht k hk
  rw [e] at this
  simp only [] at this
  omega
theorem f2_apart {L : List StowT} (h : ∀ i, i < L.length → f2 L i = false) : apartL L := by
  intro i k hk hi e
  have := h i hi
  simp only [f2, decide_eq_false_iff_not] at this
  exact this ⟨k, hk, Or.inr e⟩
theorem spIn_bd {H : List HatchT} {s : I3} (hh : hatB H = true) (h : spIn H s = true) : (0 ≤ s.1 ∧ s.1 < (H.length : Int)) ∧ (0 ≤ s.2.1 ∧ s.2.1 < 6) ∧ 0 ≤ s.2.2 ∧ s.2.2 < 6 := by
  simp only [spIn, Bool.and_eq_true] at h
  have h1 := inB_true h.1.1
  have h2 := inB_true h.1.2
  have h3 := inB_true h.2
  have hb : s.1.toNat < H.length := by omega
  have hx := hatB_at hh hb
  simp only [hat1, Bool.and_eq_true] at hx
  have x1 := inB_true hx.1.1.1
  have x2 := inB_true hx.1.1.2
  unfold hO at h2 h3
  omega
theorem f3_bd {H : List HatchT} {L : List StowT} (hh : hatB H = true) {i : Nat} (h : f3 H L i = false) : (0 ≤ (ssp (stO L i)).1 ∧ (ssp (stO L i)).1 < (H.length : Int)) ∧ (0 ≤ (ssp (stO L i)).2.1 ∧ (ssp (stO L i)).2.1 < 6) ∧ 0 ≤ (ssp (stO L i)).2.2 ∧ (ssp (stO L i)).2.2 < 6 :=
  spIn_bd hh (by simpa [f3] using h)

end Go.Proofs.Ytnfdokcpjcnknaa
