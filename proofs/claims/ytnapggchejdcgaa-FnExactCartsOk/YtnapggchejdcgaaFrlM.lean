/- Floors in numbers: places, ways, steps to a goal. Written by wip/mkfrlm.py. No statement about the program stands here. -/
import Derived.Test.YtnapggchejdcgaaFrlA
import Derived.Test.YtnapggchejdcgaaRCart
import Derived.Test.YtnapggchejdcgaaSgB
import Derived.Test.YtnapggchejdcgaaWalkE
namespace Go.Proofs.Ytnapggchejdcgaa
open Go.RowKit

/-- A floor in numbers. -/
structure Flr where
  wd : Int
  hg : Int
  W : List Int
def flB (s : Flr) : Bool := inB s.wd 1 10 && inB s.hg 1 10 && decide ((s.W.length : Int) = s.wd * s.hg) && s.W.all (fun d => inB d 0 15)
theorem mul_f10 {x y : Int} (hx0 : 1 ≤ x) (hx1 : x ≤ 10) (hy0 : 1 ≤ y) (hy1 : y ≤ 10) : 1 ≤ x * y ∧ x * y ≤ 100 := by
  have h : x = 1 ∨ x = 2 ∨ x = 3 ∨ x = 4 ∨ x = 5 ∨ x = 6 ∨ x = 7 ∨ x = 8 ∨ x = 9 ∨ x = 10 := by omega
  rcases h with rfl | rfl | rfl | rfl | rfl | rfl | rfl | rfl | rfl | rfl <;> omega
/-- What FloorOk says of the numbers. -/
structure FlN (s : Flr) : Prop where
  w0 : 1 ≤ s.wd
  w1 : s.wd ≤ 10
  h0 : 1 ≤ s.hg
  h1 : s.hg ≤ 10
  len : (s.W.length : Int) = s.wd * s.hg
  le : s.W.length ≤ 100
  pos : 1 ≤ s.W.length
  way : ∀ i, i < s.W.length → 0 ≤ s.W.getD i 0 ∧ s.W.getD i 0 ≤ 15
theorem flB_n {s : Flr} (h : flB s = true) : FlN s := by
  unfold flB at h
  simp only [Bool.and_eq_true, decide_eq_true_eq, List.all_eq_true] at h
  obtain ⟨⟨⟨h1, h2⟩, h3⟩, h5⟩ := h
  obtain ⟨a1, a2⟩ := inB_true h1
  obtain ⟨a3, a4⟩ := inB_true h2
  have hm := mul_f10 a1 a2 a3 a4
  exact ⟨a1, a2, a3, a4, h3, by omega, by omega, fun i hi => inB_true (h5 _ (by rw [getD_lt hi]; exact List.getElem_mem _))⟩
/-- Is it a place? -/
def onF (s : Flr) (p : Int) : Bool := inB p 0 ((s.W.length : Int) - 1)
theorem onF_true {s : Flr} {p : Int} (h : onF s p = true) : 0 ≤ p ∧ p < s.W.length := by have := inB_true h; omega
theorem onF_mk {s : Flr} {p : Int} (h0 : 0 ≤ p) (h1 : p < s.W.length) : onF s p = true := inB_mk h0 (by omega)

/-- A step to one of the four sides. -/
def sdX (x : Int) (b : Nat) : Int := if b = 0 then x + 1 else if b = 2 then x - 1 else x
def sdY (y : Int) (b : Nat) : Int := if b = 1 then y + 1 else if b = 3 then y - 1 else y
def onG (wd hg x y : Int) : Bool := inB x 0 (wd - 1) && inB y 0 (hg - 1)
/-- The neighbour on a side; -1 where the floor ends. -/
def nbV (wd hg p : Int) (b : Nat) : Int := bif onG wd hg (sdX (p % wd) b) (sdY (p / wd) b) then sdY (p / wd) b * wd + sdX (p % wd) b else -1
def bitB (z : Int) (b : Nat) : Bool := decide (z / 2 ^ b % 2 = 1)
/-- The place to which a way leads; -1: nowhere. -/
def nxV (s : Flr) (p : Int) (b : Nat) : Int := bif bitB (s.W.getD p.toNat 0) b then nbV s.wd s.hg p b else -1
def opS (b : Nat) : Nat := (b + 2) % 4

theorem dm_of {x y wd : Int} (h0 : 0 ≤ x) (h1 : x < wd) : (y * wd + x) % wd = x ∧ (y * wd + x) / wd = y := by
  constructor
  · rw [Int.mul_add_emod_self_right]
    exact Int.emod_eq_of_lt h0 h1
  · rw [Int.add_comm, Int.add_mul_ediv_right _ _ (by omega), Int.ediv_eq_zero_of_lt h0 h1, Int.zero_add]
theorem dm_bd {p wd hg : Int} (hw : 1 ≤ wd) (h0 : 0 ≤ p) (h1 : p < wd * hg) : 0 ≤ p % wd ∧ p % wd < wd ∧ 0 ≤ p / wd ∧ p / wd < hg ∧ p / wd * wd + p % wd = p := by
  have a1 := Int.emod_nonneg p (show wd ≠ 0 by omega)
  have a2 := Int.emod_lt_of_pos p (show 0 < wd by omega)
  have a3 := Int.ediv_nonneg h0 (show 0 ≤ wd by omega)
  have a4 : p / wd < hg := Int.ediv_lt_of_lt_mul (by omega) (by rw [Int.mul_comm]; exact h1)
  have a5 := Int.mul_ediv_add_emod p wd
  exact ⟨a1, a2, a3, a4, by rw [Int.mul_comm]; exact a5⟩
theorem sd_op {b : Nat} (hb : b < 4) (x y : Int) : sdX (sdX x b) (opS b) = x ∧ sdY (sdY y b) (opS b) = y := by
  have h : b = 0 ∨ b = 1 ∨ b = 2 ∨ b = 3 := by omega
  rcases h with rfl | rfl | rfl | rfl <;> simp [sdX, sdY, opS]
theorem opS_lt (b : Nat) : opS b < 4 := Nat.mod_lt _ (by omega)
theorem opS_op {b : Nat} (hb : b < 4) : opS (opS b) = b := by
  have h : b = 0 ∨ b = 1 ∨ b = 2 ∨ b = 3 := by omega
  rcases h with rfl | rfl | rfl | rfl <;> rfl
theorem grid_lt {x y wd hg : Int} (hx0 : 0 ≤ x) (hx1 : x < wd) (hy0 : 0 ≤ y) (hy1 : y < hg) : 0 ≤ y * wd + x ∧ y * wd + x < wd * hg := by
  have h1 := Int.mul_nonneg hy0 (show 0 ≤ wd by omega)
  have h2 : (y + 1) * wd ≤ hg * wd := Int.mul_le_mul_of_nonneg_right (by omega) (by omega)
  rw [Int.add_mul, Int.one_mul, Int.mul_comm hg wd] at h2
  omega
/-- A neighbour is a place, and its neighbour on the other side is where one was. -/
theorem nb_back {wd hg p : Int} {b : Nat} (hw : 1 ≤ wd) (hb : b < 4) (h0 : 0 ≤ p) (h1 : p < wd * hg) (h : nbV wd hg p b ≠ -1) : 0 ≤ nbV wd hg p b ∧ nbV wd hg p b < wd * hg ∧ nbV wd hg (nbV wd hg p b) (opS b) = p := by
  obtain ⟨a1, a2, a3, a4, a5⟩ := dm_bd hw h0 h1
  cases hc : onG wd hg (sdX (p % wd) b) (sdY (p / wd) b) with
  | false => exact absurd (by unfold nbV; rw [hc]; rfl) h
  | true =>
    have e : nbV wd hg p b = sdY (p / wd) b * wd + sdX (p % wd) b := by unfold nbV; rw [hc]; rfl
    have hc' := hc
    unfold onG at hc'
    rw [Bool.and_eq_true] at hc'
    obtain ⟨b1, b2⟩ := inB_true hc'.1
    obtain ⟨b3, b4⟩ := inB_true hc'.2
    obtain ⟨g1, g2⟩ := grid_lt (wd := wd) (hg := hg) b1 (by omega) b3 (by omega)
    obtain ⟨d1, d2⟩ := dm_of (y := sdY (p / wd) b) b1 (show sdX (p % wd) b < wd by omega)
    obtain ⟨o1, o2⟩ := sd_op hb (p % wd) (p / wd)
    rw [e]
    refine ⟨g1, g2, ?_⟩
    have hin : onG wd hg (p % wd) (p / wd) = true := by unfold onG; rw [inB_mk a1 (by omega), inB_mk a3 (by omega)]; rfl
    unfold nbV
    rw [d1, d2, o1, o2, hin, cond_true, a5]
theorem nb_bd {wd hg p : Int} {b : Nat} (hw : 1 ≤ wd) (hb : b < 4) (h0 : 0 ≤ p) (h1 : p < wd * hg) : -1 ≤ nbV wd hg p b ∧ nbV wd hg p b < wd * hg := by
  by_cases h : nbV wd hg p b = -1
  · omega
  · have := nb_back hw hb h0 h1 h; omega
theorem nx_nb {s : Flr} {p : Int} {b : Nat} (h : nxV s p b ≠ -1) : bitB (s.W.getD p.toNat 0) b = true ∧ nxV s p b = nbV s.wd s.hg p b := by
  unfold nxV at h ⊢
  cases hb : bitB (s.W.getD p.toNat 0) b with
  | true => simp
  | false => rw [hb] at h; exact absurd rfl h
theorem nx_bd {s : Flr} (hn : FlN s) {p : Int} {b : Nat} (hb : b < 4) (h0 : 0 ≤ p) (h1 : p < s.W.length) : -1 ≤ nxV s p b ∧ nxV s p b < s.W.length := by
  have := nb_bd (hg := s.hg) hn.w0 hb h0 (by rw [← hn.len]; exact h1)
  rw [← hn.len] at this
  by_cases h : nxV s p b = -1
  · omega
  · rw [(nx_nb h).2]; exact this

/-- A way leads from v to u. -/
def Ed (s : Flr) (u v : Nat) : Prop := u < s.W.length ∧ v < s.W.length ∧ ∃ b : Nat, b < 4 ∧ nxV s (v : Int) b = (u : Int)
/-- .. as it is gone back. -/
theorem ed_back {s : Flr} (hn : FlN s) {u v b : Nat} (hu : u < s.W.length) (hb : b < 4) (hv : nbV s.wd s.hg (u : Int) (opS b) = (v : Int)) (hw : bitB (s.W.getD v 0) b = true) : Ed s u v := by
  have h1 : (u : Int) < s.wd * s.hg := by rw [← hn.len]; omega
  obtain ⟨g0, g1, g2⟩ := nb_back (p := (u : Int)) hn.w0 (opS_lt b) (by omega) h1 (by omega)
  rw [hv] at g1 g2
  rw [opS_op hb] at g2
  rw [← hn.len] at g1
  exact ⟨hu, by omega, b, hb, by unfold nxV; rw [Int.toNat_natCast, hw, cond_true, g2]⟩
theorem ed_fwd {s : Flr} (hn : FlN s) {u v b : Nat} (hv : v < s.W.length) (hb : b < 4) (h : nxV s (v : Int) b = (u : Int)) : bitB (s.W.getD v 0) b = true ∧ nbV s.wd s.hg (u : Int) (opS b) = (v : Int) := by
  obtain ⟨h2, h3⟩ := nx_nb (s := s) (p := (v : Int)) (b := b) (by omega)
  rw [Int.toNat_natCast] at h2
  have h1 : (v : Int) < s.wd * s.hg := by rw [← hn.len]; omega
  obtain ⟨g0, g1, g2⟩ := nb_back (p := (v : Int)) hn.w0 hb (by omega) h1 (by omega)
  rw [← h3, h] at g2
  exact ⟨h2, g2⟩

/-- How many times a call is passed on till it comes to each. -/
structure Stps (s : Flr) (f : Nat) (P : List Int) : Prop where
  len : P.length = s.W.length
  low : ∀ v, v < s.W.length → -1 ≤ P.getD v 0
  zero : ∀ v, v < s.W.length → (P.getD v 0 = 0 ↔ v = f)
  pred : ∀ v, v < s.W.length → 0 < P.getD v 0 → ∃ u, Ed s u v ∧ P.getD u 0 = P.getD v 0 - 1
  relax : ∀ u v, Ed s u v → 0 ≤ P.getD u 0 → 0 ≤ P.getD v 0 ∧ P.getD v 0 ≤ P.getD u 0 + 1
theorem Stps.le {s : Flr} {f : Nat} {P Q : List Int} (hP : Stps s f P) (hQ : Stps s f Q) : ∀ (k : Nat) (v : Nat), v < s.W.length → P.getD v 0 = (k : Int) → 0 ≤ Q.getD v 0 ∧ Q.getD v 0 ≤ (k : Int) := by
  intro k
  induction k with
  | zero =>
    intro v hv h
    have e := (hP.zero v hv).1 (by simpa using h)
    have := (hQ.zero v hv).2 e
    omega
  | succ k ih =>
    intro v hv h
    obtain ⟨u, hE, hu⟩ := hP.pred v hv (by omega)
    obtain ⟨h1, h2⟩ := ih u hE.1 (by omega)
    have := hQ.relax u v hE h1
    omega
theorem Stps.one {s : Flr} {f : Nat} {P Q : List Int} (hP : Stps s f P) (hQ : Stps s f Q) : P = Q := by
  apply List.ext_getElem
  · rw [hP.len, hQ.len]
  · intro v h1 h2
    have hv : v < s.W.length := by rw [← hP.len]; exact h1
    have a : P.getD v 0 = P[v] := getD_lt h1
    have b : Q.getD v 0 = Q[v] := getD_lt h2
    have lp := hP.low v hv
    have lq := hQ.low v hv
    rw [← a, ← b]
    by_cases c : 0 ≤ P.getD v 0
    · obtain ⟨k, hk⟩ : ∃ k : Nat, P.getD v 0 = (k : Int) := ⟨(P.getD v 0).toNat, by omega⟩
      obtain ⟨h3, h4⟩ := hP.le hQ k v hv hk
      obtain ⟨k', hk'⟩ : ∃ k : Nat, Q.getD v 0 = (k : Int) := ⟨(Q.getD v 0).toNat, by omega⟩
      obtain ⟨h5, h6⟩ := hQ.le hP k' v hv hk'
      omega
    · by_cases d : 0 ≤ Q.getD v 0
      · obtain ⟨k', hk'⟩ : ∃ k : Nat, Q.getD v 0 = (k : Int) := ⟨(Q.getD v 0).toNat, by omega⟩
        obtain ⟨h5, h6⟩ := hQ.le hP k' v hv hk'
        omega
      · omega

/-- Fewer than all. -/
theorem countP_lt {α : Type} {p q : α → Bool} (l : List α) (h : ∀ x, p x = true → q x = true) (a : α) (ha : a ∈ l) (hq : q a = true) (hp : p a = false) : l.countP p < l.countP q := by
  induction l with
  | nil => simp at ha
  | cons b l ih =>
    have hle : l.countP p ≤ l.countP q := List.countP_mono_left fun x _ => h x
    rw [List.countP_cons, List.countP_cons]
    rcases List.mem_cons.1 ha with e | e
    · subst e
      rw [hq, hp]
      simp
      omega
    · have := ih e
      by_cases hb : p b = true
      · rw [hb, h b hb]; simp; omega
      · rw [if_neg hb]
        split <;> omega

/-- Level by level, as the specification goes. -/
structure Lev (s : Flr) (f d i : Nat) (P : List Int) : Prop where
  len : P.length = s.W.length
  low : ∀ v, v < s.W.length → -1 ≤ P.getD v 0
  zero : ∀ v, v < s.W.length → (P.getD v 0 = 0 ↔ v = f)
  pred : ∀ v, v < s.W.length → 0 < P.getD v 0 → ∃ u, Ed s u v ∧ P.getD u 0 = P.getD v 0 - 1
  up : ∀ v, v < s.W.length → P.getD v 0 ≤ (d : Int) + 1
  rel0 : ∀ u v, Ed s u v → 0 ≤ P.getD u 0 → P.getD u 0 < d → 0 ≤ P.getD v 0 ∧ P.getD v 0 ≤ P.getD u 0 + 1
  rel1 : ∀ u v, Ed s u v → v < i → P.getD u 0 = d → 0 ≤ P.getD v 0
theorem getD_set (P : List Int) (j : Nat) (x : Int) (v : Nat) (hj : j < P.length) : (P.set j x).getD v 0 = if v = j then x else P.getD v 0 := by
  by_cases e : v = j
  · subst e; rw [if_pos rfl]; simp [List.getD, hj]
  · rw [if_neg e]; simp [List.getD, List.getElem?_set_ne (show j ≠ v by omega)]
theorem Lev.start (s : Flr) (f : Nat) (hf : f < s.W.length) : Lev s f 0 0 ((List.replicate s.W.length (-1)).set f 0) := by
  have hg : ∀ v, v < s.W.length → ((List.replicate s.W.length (-1 : Int)).set f 0).getD v 0 = if v = f then 0 else -1 := fun v hv => by
    rw [getD_set _ _ _ _ (by simpa using hf)]
    split
    · rfl
    · simp [List.getD, hv]
  refine ⟨by simp, fun v hv => ?_, fun v hv => ?_, fun v hv h => ?_, fun v hv => ?_, fun u v hE h1 h2 => ?_, fun u v hE h => by omega⟩
  · rw [hg v hv]; split <;> omega
  · rw [hg v hv]
    constructor
    · intro h; split at h
      · assumption
      · omega
    · intro h; rw [if_pos h]
  · rw [hg v hv] at h; split at h <;> omega
  · rw [hg v hv]; split <;> omega
  · omega
/-- One is told. -/
theorem Lev.put {s : Flr} {f d m i j : Nat} {P : List Int} (h : Lev s f d m P) (hE : Ed s i j) (hi : P.getD i 0 = d) (hj : P.getD j 0 < 0) : Lev s f d m (P.set j ((d : Int) + 1)) := by
  have hjl : j < P.length := by rw [h.len]; exact hE.2.1
  have g : ∀ v, (P.set j ((d : Int) + 1)).getD v 0 = if v = j then (d : Int) + 1 else P.getD v 0 := fun v => getD_set P j _ v hjl
  refine ⟨by rw [List.length_set]; exact h.len, fun v hv => ?_, fun v hv => ?_, fun v hv hp => ?_, fun v hv => ?_, fun u v hE' h1 h2 => ?_, fun u v hE' h1 h2 => ?_⟩
  · rw [g]; split
    · omega
    · exact h.low v hv
  · rw [g]
    by_cases e : v = j
    · rw [if_pos e]
      constructor
      · intro h0; omega
      · intro h0
        have := (h.zero v hv).2 h0
        rw [e] at this
        omega
    · rw [if_neg e]; exact h.zero v hv
  · rw [g] at hp
    by_cases e : v = j
    · subst e
      refine ⟨i, hE, ?_⟩
      rw [g, g, if_pos rfl, if_neg (fun e => by rw [e] at hi; omega), hi]
      omega
    · rw [if_neg e] at hp
      obtain ⟨u, hu, hpu⟩ := h.pred v hv hp
      refine ⟨u, hu, ?_⟩
      rw [g, g, if_neg e, if_neg (fun e => by rw [e] at hpu; omega)]
      exact hpu
  · rw [g]; split
    · omega
    · exact h.up v hv
  · rw [g] at h1 h2
    by_cases e : u = j
    · rw [if_pos e] at h2; omega
    · rw [if_neg e] at h1 h2
      obtain ⟨q1, q2⟩ := h.rel0 u v hE' h1 h2
      rw [g, g, if_neg e, if_neg (fun e => by rw [e] at q1; omega)]
      exact ⟨q1, q2⟩
  · rw [g] at h2
    by_cases e : u = j
    · rw [if_pos e] at h2; omega
    · rw [if_neg e] at h2
      have q1 := h.rel1 u v hE' h1 h2
      rw [g]
      split <;> omega
theorem Lev.next {s : Flr} {f d i : Nat} {P : List Int} (h : Lev s f d i P) (hr : P.getD i 0 < 0 → ∀ b, b < 4 → ∀ u : Nat, nxV s (i : Int) b = (u : Int) → u < s.W.length → P.getD u 0 ≠ (d : Int)) : Lev s f d (i + 1) P :=
  ⟨h.len, h.low, h.zero, h.pred, h.up, h.rel0, fun u v hE h1 h2 => by
    by_cases e : v = i
    · subst e
      obtain ⟨hu, _, b, hb, hx⟩ := hE
      rcases Int.lt_or_le (P.getD v 0) 0 with hl | hl
      · exact absurd h2 (hr hl b hb u hx hu)
      · exact hl
    · exact h.rel1 u v hE (by omega) h2⟩
theorem Lev.level {s : Flr} {f d : Nat} {P : List Int} (h : Lev s f d s.W.length P) : Lev s f (d + 1) 0 P :=
  ⟨h.len, h.low, h.zero, h.pred, fun v hv => by have := h.up v hv; omega, fun u v hE h1 h2 => by
    by_cases e : P.getD u 0 = d
    · have q1 := h.rel1 u v hE hE.2.1 e
      have q2 := h.up v hE.2.1
      exact ⟨q1, by omega⟩
    · exact h.rel0 u v hE h1 (by omega), fun u v hE h1 => by omega⟩
theorem Lev.done {s : Flr} {f : Nat} {P : List Int} (h : Lev s f s.W.length 0 P) : Stps s f P := by
  -- as many places as levels
  have cnt : ∀ (j v : Nat), v < s.W.length → P.getD v 0 = (j : Int) → j + 1 ≤ (List.range s.W.length).countP (fun x => decide (0 ≤ P.getD x 0 ∧ P.getD x 0 ≤ (j : Int))) := by
    intro j
    induction j with
    | zero =>
      intro v hv hp
      have := List.countP_pos_iff (p := fun x => decide (0 ≤ P.getD x 0 ∧ P.getD x 0 ≤ ((0 : Nat) : Int))) (l := List.range s.W.length) |>.2 ⟨v, List.mem_range.2 hv, by show decide (0 ≤ P.getD v 0 ∧ P.getD v 0 ≤ ((0 : Nat) : Int)) = true; rw [decide_eq_true_eq]; omega⟩
      omega
    | succ j ih =>
      intro v hv hp
      obtain ⟨u, hE, hu⟩ := h.pred v hv (by omega)
      have h1 := ih u hE.1 (by omega)
      have h2 := countP_lt (p := fun x => decide (0 ≤ P.getD x 0 ∧ P.getD x 0 ≤ (j : Int))) (q := fun x => decide (0 ≤ P.getD x 0 ∧ P.getD x 0 ≤ ((j + 1 : Nat) : Int))) (List.range s.W.length) (fun x hx => by
        rw [decide_eq_true_eq] at hx ⊢
        omega) v (List.mem_range.2 hv) (by rw [decide_eq_true_eq]; omega) (by rw [decide_eq_false_iff_not]; omega)
      omega
  have bound : ∀ v, v < s.W.length → P.getD v 0 < (s.W.length : Int) := fun v hv => by
    rcases Int.lt_or_le (P.getD v 0) (s.W.length : Int) with hlt | hge
    · exact hlt
    · have hup := h.up v hv
      obtain ⟨j, hj⟩ : ∃ j : Nat, P.getD v 0 = (j : Int) := ⟨(P.getD v 0).toNat, by omega⟩
      have h1 := cnt j v hv hj
      have h2 := List.countP_le_length (p := fun x => decide (0 ≤ P.getD x 0 ∧ P.getD x 0 ≤ (j : Int))) (l := List.range s.W.length)
      rw [List.length_range] at h2
      omega
  exact ⟨h.len, h.low, h.zero, h.pred, fun u v hE hu => h.rel0 u v hE hu (bound u hE.1)⟩


/-- Who was told and has not told yet stands in Q, sooner ahead of later. -/
structure BfT (s : Flr) (f : Nat) (P : List Int) (Q : List Nat) : Prop where
  len : P.length = s.W.length
  low : ∀ v, v < s.W.length → -1 ≤ P.getD v 0
  zero : ∀ v, v < s.W.length → (P.getD v 0 = 0 ↔ v = f)
  pred : ∀ v, v < s.W.length → 0 < P.getD v 0 → ∃ u, Ed s u v ∧ P.getD u 0 = P.getD v 0 - 1
  inq : ∀ v ∈ Q, v < s.W.length ∧ 0 ≤ P.getD v 0
  ord : Q.Pairwise (fun a b => P.getD a 0 ≤ P.getD b 0)
  up : ∀ t R, Q = t :: R → ∀ v, v < s.W.length → P.getD v 0 ≤ P.getD t 0 + 1
  rel : ∀ u v, Ed s u v → 0 ≤ P.getD u 0 → u ∉ Q → 0 ≤ P.getD v 0 ∧ P.getD v 0 ≤ P.getD u 0 + 1
/-- The same while t is telling. -/
structure BfI (s : Flr) (f t : Nat) (P : List Int) (Q : List Nat) : Prop where
  len : P.length = s.W.length
  low : ∀ v, v < s.W.length → -1 ≤ P.getD v 0
  zero : ∀ v, v < s.W.length → (P.getD v 0 = 0 ↔ v = f)
  pred : ∀ v, v < s.W.length → 0 < P.getD v 0 → ∃ u, Ed s u v ∧ P.getD u 0 = P.getD v 0 - 1
  tl : t < s.W.length ∧ 0 ≤ P.getD t 0
  inq : ∀ v ∈ Q, v < s.W.length ∧ P.getD t 0 ≤ P.getD v 0
  ord : Q.Pairwise (fun a b => P.getD a 0 ≤ P.getD b 0)
  up : ∀ v, v < s.W.length → P.getD v 0 ≤ P.getD t 0 + 1
  rel : ∀ u v, Ed s u v → 0 ≤ P.getD u 0 → u ∉ Q → u ≠ t → 0 ≤ P.getD v 0 ∧ P.getD v 0 ≤ P.getD u 0 + 1
theorem BfT.pop {s : Flr} {f t : Nat} {P : List Int} {Q : List Nat} (h : BfT s f P (t :: Q)) : BfI s f t P Q := by
  have ho := List.pairwise_cons.1 h.ord
  exact ⟨h.len, h.low, h.zero, h.pred, h.inq t (by simp), fun v hv => ⟨(h.inq v (by simp [hv])).1, ho.1 v hv⟩, ho.2, h.up t Q rfl, fun u v hE h1 h2 h3 => h.rel u v hE h1 (by simp [h2, h3])⟩
theorem BfI.put {s : Flr} {f t j : Nat} {P : List Int} {Q : List Nat} (h : BfI s f t P Q) (hE : Ed s t j) (hj : P.getD j 0 < 0) : BfI s f t (P.set j (P.getD t 0 + 1)) (Q ++ [j]) := by
  have hjl : j < P.length := by rw [h.len]; exact hE.2.1
  have ht := h.tl
  have g : ∀ v, (P.set j (P.getD t 0 + 1)).getD v 0 = if v = j then P.getD t 0 + 1 else P.getD v 0 := fun v => getD_set P j _ v hjl
  have htj : t ≠ j := fun e => by rw [e] at ht; omega
  have gt : (P.set j (P.getD t 0 + 1)).getD t 0 = P.getD t 0 := by rw [g, if_neg htj]
  have gq : ∀ v ∈ Q, (P.set j (P.getD t 0 + 1)).getD v 0 = P.getD v 0 := fun v hv => by
    have := (h.inq v hv).2
    rw [g, if_neg (fun e => by rw [e] at this; omega)]
  refine ⟨by rw [List.length_set]; exact h.len, fun v hv => ?_, fun v hv => ?_, fun v hv hp => ?_, ⟨ht.1, by rw [gt]; exact ht.2⟩, fun v hv => ?_, ?_, fun v hv => ?_, fun u v hE' h1 h2 h3 => ?_⟩
  · rw [g]; split
    · omega
    · exact h.low v hv
  · rw [g]
    by_cases e : v = j
    · rw [if_pos e]
      constructor
      · intro h0; omega
      · intro h0
        have := (h.zero v hv).2 h0
        rw [e] at this
        omega
    · rw [if_neg e]; exact h.zero v hv
  · rw [g] at hp
    by_cases e : v = j
    · subst e
      refine ⟨t, hE, ?_⟩
      rw [gt, g, if_pos rfl]
      omega
    · rw [if_neg e] at hp
      obtain ⟨u, hu, hpu⟩ := h.pred v hv hp
      refine ⟨u, hu, ?_⟩
      rw [g, g, if_neg e, if_neg (fun e => by rw [e] at hpu; omega)]
      exact hpu
  · rw [gt]
    rcases List.mem_append.1 hv with hv | hv
    · rw [gq v hv]; exact h.inq v hv
    · rw [List.mem_singleton] at hv
      subst hv
      rw [g, if_pos rfl]
      exact ⟨hE.2.1, by omega⟩
  · rw [List.pairwise_append]
    refine ⟨h.ord.imp_of_mem (fun ha hb hab => by rw [gq _ ha, gq _ hb]; exact hab), List.pairwise_singleton _ _, fun a ha b hb => ?_⟩
    rw [List.mem_singleton] at hb
    subst hb
    rw [gq a ha, g, if_pos rfl]
    exact h.up a (h.inq a ha).1
  · rw [gt, g]; split
    · omega
    · exact h.up v hv
  · rw [List.mem_append, List.mem_singleton] at h2
    have e : u ≠ j := fun e => h2 (Or.inr e)
    rw [g, if_neg e] at h1
    obtain ⟨q1, q2⟩ := h.rel u v hE' h1 (fun e => h2 (Or.inl e)) h3
    rw [g, g, if_neg e, if_neg (fun e => by rw [e] at q1; omega)]
    exact ⟨q1, q2⟩
theorem BfI.close {s : Flr} {f t : Nat} {P : List Int} {Q : List Nat} (h : BfI s f t P Q) (hr : ∀ v, Ed s t v → 0 ≤ P.getD v 0) : BfT s f P Q :=
  ⟨h.len, h.low, h.zero, h.pred, fun v hv => ⟨(h.inq v hv).1, by have := (h.inq v hv).2; have := h.tl.2; omega⟩, h.ord, fun s R e v hv => by
    have h1 := (h.inq s (by rw [e]; simp)).2
    have h2 := h.up v hv
    omega, fun u v hE h1 h2 => by
    by_cases e : u = t
    · subst e
      exact ⟨hr v hE, h.up v hE.2.1⟩
    · exact h.rel u v hE h1 h2 e⟩
theorem BfT.done {s : Flr} {f : Nat} {P : List Int} (h : BfT s f P []) : Stps s f P :=
  ⟨h.len, h.low, h.zero, h.pred, fun u v hE h1 => h.rel u v hE h1 (by simp)⟩
theorem BfT.start (s : Flr) (f : Nat) (hf : f < s.W.length) : BfT s f ((List.replicate s.W.length (-1)).set f 0) [f] := by
  have h := Lev.start s f hf
  have hz := (h.zero f hf).2 rfl
  refine ⟨h.len, h.low, h.zero, h.pred, fun v hv => ?_, List.pairwise_singleton _ _, fun t R e v hv => ?_, fun u v hE h1 h2 => ?_⟩
  · rw [List.mem_singleton] at hv; subst hv; exact ⟨hf, by omega⟩
  · simp only [List.cons.injEq] at e
    rw [← e.1, hz]
    have := h.up v hv
    omega
  · rw [List.mem_singleton] at h2
    have hg := getD_set (List.replicate s.W.length (-1 : Int)) f 0 u (by simpa using hf)
    rw [hg, if_neg h2] at h1
    simp [List.getD, hE.1] at h1
/-- How many are not told yet. -/
def negs (P : List Int) : Nat := P.countP (fun x => decide (x < 0))
theorem negs_put {P : List Int} {j : Nat} {x : Int} (hj : j < P.length) (h : P.getD j 0 < 0) (hx : 0 ≤ x) : negs (P.set j x) + 1 = negs P := by
  unfold negs
  induction P generalizing j with
  | nil => simp at hj
  | cons a P ih =>
    cases j with
    | zero =>
      simp only [List.getD, List.getElem?_cons_zero, Option.getD_some] at h
      rw [List.set_cons_zero, List.countP_cons, List.countP_cons, if_neg (by rw [decide_eq_true_eq]; omega), if_pos (by rw [decide_eq_true_eq]; exact h)]
    | succ j =>
      have := ih (j := j) (by simpa using hj) (by simpa [List.getD] using h)
      rw [List.set_cons_succ, List.countP_cons, List.countP_cons]
      omega


/-- The steps to a goal from each place. -/
noncomputable def hopL (s : Flr) (g : Nat) : List Int := @dite _ (∃ P, Stps s g P) (Classical.propDecidable _) (fun h => Classical.choose h) (fun _ => [])
theorem hopL_eq {s : Flr} {g : Nat} {P : List Int} (hP : Stps s g P) : hopL s g = P := by
  have hex : ∃ P, Stps s g P := ⟨P, hP⟩
  unfold hopL
  rw [dif_pos hex]
  exact Stps.one (Classical.choose_spec hex) hP
/-- What Hops answers. -/
noncomputable def hopsV (s : Flr) (g : Int) : List Int := bif flB s && onF s g then hopL s g.toNat else []
def hopsB (s : Flr) (g : Int) : Bool := flB s && onF s g

end Go.Proofs.Ytnapggchejdcgaa
