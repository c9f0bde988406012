/- Shaped pushes in numbers: behind a plan's shaped pushes a load that hung still hangs still, and the trolley has gone the plan's way. No statement about the program stands here. -/
import Derived.Test.YtkfdcpnbpmipkaaPlnA
namespace Go.Proofs.Ytkfdcpnbpmipkaa
open Go.RowKit

/-- A sway behind pushes, one after the other. -/
def btN : Int → Int → Int → List Int → Bool × Int × Int × Int
  | a, o, s, [] => (true, a, o, s)
  | a, o, s, p :: L => bif swgB a o s p then btN (a + p) s (p - o) L else (false, 0, 0, 0)
/-- Beats: the sway, and whether it is told. -/
def btV (a o s : Int) (L : List Int) : Bool × Int × Int × Int := bif swB a o s && decide (L.length ≤ 40) then btN a o s L else (false, 0, 0, 0)

section
variable {m l : Int}
theorem lf_even (hm : m % 2 = 0) (hl : l % 2 = 0) : ∀ k, lf m l k % 2 = 0
  | 0 => hl
  | k + 1 => by
    have ih := lf_even hm hl k
    unfold lf clp
    generalize lf m l k = x at ih ⊢
    split
    · omega
    · split <;> omega
theorem clp_even {x : Int} (hm : m % 2 = 0) (hx : x % 2 = 0) : clp x m % 2 = 0 := by
  unfold clp
  split
  · exact hm
  · split <;> omega
theorem clp_le {x : Int} (hm : 2 ≤ m) : -m ≤ clp x m ∧ clp x m ≤ m := by
  unfold clp
  split
  · omega
  · split <;> omega
/-- But for the last push each is as great as may be. -/
theorem clp_full {k : Nat} (h : lf m l (k + 1) ≠ 0) : clp (lf m l k) m = m ∨ clp (lf m l k) m = -m := by
  unfold lf at h
  unfold clp at h ⊢
  generalize lf m l k = x at h ⊢
  by_cases h1 : m < x
  · rw [if_pos h1]; exact Or.inl rfl
  · rw [if_neg h1] at h ⊢
    by_cases h2 : x < -m
    · rw [if_pos h2]; exact Or.inr rfl
    · rw [if_neg h2] at h
      omega
theorem lf_past (hm : 2 ≤ m) {k : Nat} (h : plN m l ≤ k) : lf m l k = 0 := by
  by_cases e : lf m l k = 0
  · exact e
  · have := (lt_plN (l := l) hm k).2 e
    omega
theorem plK_get (k i : Nat) : (plK m l k).getD i 0 = if i < k then clp (lf m l i) m else 0 := by
  unfold plK
  by_cases h : i < k
  · simp [h]
  · simp [h]
theorem hv_pl (hm : 2 ≤ m) (hm2 : m % 2 = 0) (hl : l % 2 = 0) (i : Nat) : 2 * hv (plK m l (plN m l)) i = lf m l i - lf m l (i + 1) := by
  have e : (plK m l (plN m l)).getD i 0 = clp (lf m l i) m := by
    rw [plK_get]
    split
    · rfl
    · rename_i h
      rw [lf_past hm (by omega)]
      unfold clp
      rw [if_neg (by omega), if_neg (by omega)]
  have hev := clp_even hm2 (lf_even hm2 hl i)
  unfold hv
  rw [e]
  show _ = lf m l i - (lf m l i - clp (lf m l i) m)
  generalize clp (lf m l i) m = x at hev ⊢
  have : 2 * x.tdiv 2 = x := Int.mul_tdiv_cancel' (Int.dvd_of_emod_eq_zero hev)
  omega
/-- The row of the shaped pushes, told for all places. -/
theorem puF_all (L : List Int) (j : Nat) : puF L L.length j = hv L j + (if 2 ≤ j then hv L (j - 2) else 0) := by
  have h0 : ∀ i, ¬ i < L.length → hv L i = 0 := fun i hi => by
    unfold hv
    rw [List.getD_eq_getElem?_getD, List.getElem?_eq_none (by omega)]
    rfl
  unfold puF
  by_cases h1 : j < L.length <;> by_cases h2 : 2 ≤ j <;> by_cases h3 : j - 2 < L.length
  · rw [if_pos h1, if_pos ⟨h2, h3⟩, if_pos h2]
  · omega
  · rw [if_pos h1, if_neg (by omega), if_neg h2]
  · rw [if_pos h1, if_neg (by omega), if_neg h2]
  · rw [if_neg h1, if_pos ⟨h2, h3⟩, if_pos h2, h0 j h1]
  · rw [if_neg h1, if_neg (by omega), if_pos h2, h0 j h1, h0 _ h3]
  · rw [if_neg h1, if_neg (by omega), if_neg h2, h0 j h1]
  · rw [if_neg h1, if_neg (by omega), if_neg h2, h0 j h1]
/-- Where the sway is behind j shaped pushes. -/
theorem bt_from (hm : 2 ≤ m ∧ m ≤ 1000) (hm2 : m % 2 = 0) (hl : l % 2 = 0) (hlb : -10000 ≤ l ∧ l ≤ 10000) (a0 : Int) (ha : -1000 ≤ a0 ∧ a0 ≤ 1000) :
    ∀ (g j : Nat) (a o s : Int), g + j = plN m l + 2 → 2 * a = 2 * a0 + (l - lf m l j) + (l - lf m l (j - 2)) → o = (if 2 ≤ j then hv (plK m l (plN m l)) (j - 2) else 0) → s = (if 1 ≤ j then hv (plK m l (plN m l)) (j - 1) else 0) →
      btN a o s ((puV (plK m l (plN m l)) (plN m l)).drop j) = (true, a0 + l, 0, 0) := by
  intro g
  have hH := hv_pl hm.1 hm2 hl
  have hB := fun k => lf_bd (m := m) (l := l) hm.1 hlb k
  have hP := fun k (hk : plN m l ≤ k) => lf_past (m := m) (l := l) hm.1 hk
  have hlen : (puV (plK m l (plN m l)) (plN m l)).length = plN m l + 2 := by rw [puV_len, plK_len]
  have hlp : (plK m l (plN m l)).length = plN m l := plK_len m l _
  have hpu := fun j => puF_all (plK m l (plN m l)) j
  rw [hlp] at hpu
  have hget : ∀ j, j < plN m l + 2 → (puV (plK m l (plN m l)) (plN m l))[j]? = some (puF (plK m l (plN m l)) (plN m l) j) := fun j hj => by
    unfold puV
    rw [hlp]
    simp [hj]
  generalize plN m l = n at *
  generalize hv (plK m l n) = H at *
  generalize puV (plK m l n) n = V at *
  generalize puF (plK m l n) n = F at *
  induction g with
  | zero =>
    intro j a o s hg ha2 ho hs
    rw [List.drop_eq_nil_of_le (by omega)]
    rw [if_pos (by omega)] at ho hs
    have e1 := hP j (by omega)
    have e2 := hP (j - 2) (by omega)
    have e3 := hH (j - 2)
    have e4 := hP (j - 2 + 1) (by omega)
    have e5 := hH (j - 1)
    have e6 := hP (j - 1) (by omega)
    have e7 := hP (j - 1 + 1) (by omega)
    have : a = a0 + l := by omega
    have : o = 0 := by omega
    have : s = 0 := by omega
    subst_vars
    simp only [btN]
    simp_all
  | succ g ih =>
    intro j a o s hg ha2 ho hs
    have hj : j < n + 2 := by omega
    have hd : V.drop j = F j :: V.drop (j + 1) := by
      have h9 := hget j hj
      obtain ⟨hlt, e⟩ := List.getElem?_eq_some_iff.1 h9
      rw [List.drop_eq_getElem_cons hlt, e]
    rw [hd]
    have hF := hpu j
    have b1 := hB j
    have b2 := hB (j - 2)
    have b3 := hB (j + 1)
    have b4 := hB (j - 2 + 1)
    have b5 := hB (j - 1)
    have b6 := hB (j - 1 + 1)
    have e1 := hH j
    have e2 := hH (j - 2)
    have e3 := hH (j - 1)
    have d1 : clp (lf m l j) m = lf m l j - lf m l (j + 1) := by show _ = lf m l j - (lf m l j - clp (lf m l j) m); omega
    have d2 : clp (lf m l (j - 2)) m = lf m l (j - 2) - lf m l (j - 2 + 1) := by show _ = lf m l (j - 2) - (lf m l (j - 2) - clp (lf m l (j - 2)) m); omega
    have c1 := clp_le (x := lf m l j) hm.1
    have c2 := clp_le (x := lf m l (j - 2)) hm.1
    have hFb : -1000 ≤ F j ∧ F j ≤ 1000 := by
      rw [hF]
      split <;> omega
    have hab : -40000 ≤ a ∧ a ≤ 40000 := by omega
    have hob : -10000 ≤ o ∧ o ≤ 10000 := by rw [ho]; split <;> omega
    have hsb : -10000 ≤ s ∧ s ≤ 10000 := by rw [hs]; split <;> omega
    have hsw : swgB a o s (F j) = true := by
      unfold swgB swB
      rw [inB_mk (by omega) (by omega), inB_mk (by omega) (by omega), inB_mk (by omega) (by omega), inB_mk (by omega) (by omega), inB_mk (by omega) (by omega), inB_mk (by omega) (by omega)]
      rfl
    show (bif swgB a o s (F j) then btN (a + F j) s (F j - o) (V.drop (j + 1)) else _) = _
    rw [hsw, cond_true]
    refine ih (j + 1) _ _ _ (by omega) ?_ ?_ ?_
    · rw [hF]
      by_cases h2 : 2 ≤ j
      · rw [if_pos h2]
        have e9 : j + 1 - 2 = j - 2 + 1 := by omega
        rw [e9]
        omega
      · rw [if_neg h2]
        have e9 : j + 1 - 2 = 0 := by omega
        have e10 : j - 2 = 0 := by omega
        rw [e9]
        rw [e10] at ha2
        omega
    · rw [hs]
      by_cases h1 : 1 ≤ j
      · rw [if_pos h1, if_pos (by omega)]
        rfl
      · rw [if_neg h1, if_neg (by omega)]
    · rw [if_pos (by omega), hF, ho]
      show _ = H j
      omega
/-- A plan comes to its way, and leaves what hung still. -/
theorem bt_plan (hm : 2 ≤ m ∧ m ≤ 1000) (hm2 : m % 2 = 0) (hl : l % 2 = 0) (hlb : -10000 ≤ l ∧ l ≤ 10000) (hn : plN m l ≤ 38) (a0 : Int) (ha : -1000 ≤ a0 ∧ a0 ≤ 1000) :
    btV a0 0 0 (puV (plK m l (plN m l)) (plN m l)) = (true, a0 + l, 0, 0) := by
  unfold btV
  have hs : swB a0 0 0 = true := by
    unfold swB
    rw [inB_mk (by omega) (by omega), inB_mk (by omega) (by omega)]
    rfl
  rw [hs, puV_len, plK_len, decide_eq_true (by omega : plN m l + 2 ≤ 40)]
  have h := bt_from hm hm2 hl hlb a0 ha (plN m l + 2) 0 a0 0 0 (by omega) (by show 2 * a0 = 2 * a0 + (l - l) + (l - l); omega) rfl rfl
  exact h
end

end Go.Proofs.Ytkfdcpnbpmipkaa
