/- Laid together out of: SeW, RvA, ImWayOf, SeW2, SeF, BlkA, L7WayOf, OpenRs, OpenSe. -/
import Derived.Test.YtdpcacfgbjllhaaPe
import Derived.Deep.RegionWith
import Derived.Deep.AppendLies
import Derived.Test.YtdpcacfgbjllhaaPb
import Derived.Test.YtdpcacfgbjllhaaPa
import Derived.Deep.RegionHeld3
import Derived.Deep.DeepCutAuto
import Derived.ProofKit
import Derived.OpenShut
import Derived.ShutString
import Derived.ChangeOld
import Derived.Below
import Derived.Deep.Matrix
import Derived.Lib.SmallJoins

/- The way back along costs that are proved, in numbers. Mathematics; no statement about the program stands here. -/
namespace Go.Proofs.Ytdpcacfgbjllhaa
open Go.RowKit

theorem countP_lt {f g : Int → Bool} {M : List Int} (h : ∀ m, f m = true → g m = true) {p : Nat} (hp : p < M.length) (hg : g (M.getD p 0) = true) (hf : f (M.getD p 0) = false) : M.countP f + 1 ≤ M.countP g := by
  induction M generalizing p with
  | nil => simp at hp
  | cons a t ih =>
    have hle : t.countP f ≤ t.countP g := List.countP_mono_left (fun x _ hx => h x hx)
    rw [List.countP_cons, List.countP_cons]
    cases p with
    | zero =>
      have e : (a :: t).getD 0 0 = a := rfl
      rw [e] at hg hf
      rw [hg, hf]
      simp
      omega
    | succ p =>
      have e : (a :: t).getD (p + 1) 0 = t.getD p 0 := by simp [List.getD]
      rw [e] at hg hf
      have := ih (p := p) (by simpa using hp) hg hf
      cases hfa : f a with
      | false => simp; omega
      | true => rw [h a hfa]; simp; omega
theorem Prov.high {s : Se} {x : Nat} {M : List Int} (h : Prov s x M) : ∀ (k p : Nat), p < s.D.length → 0 ≤ M.getD p 0 → M.getD p 0 ≤ (k : Int) → M.getD p 0 ≤ 1000 * (M.countP (fun m => decide (0 ≤ m) && decide (m < M.getD p 0)) : Int) := by
  intro k
  induction k with
  | zero => intro p hp h0 hk; omega
  | succ k ih =>
    intro p hp h0 hk
    rcases h.came p hp h0 with rfl | ⟨q, hq, hd, hx, he⟩
    · rw [h.at0]; omega
    · have hpz : s.D.getD p 0 ≠ 0 := fun e => by have := h.land p hp e; omega
      have hc := h.n.cost p hp
      have hbq := (h.bear p q hp hq h0 hd hx).1
      have h1 := ih q hq hbq (by omega)
      have h2 := countP_lt (f := fun m => decide (0 ≤ m) && decide (m < M.getD q 0)) (g := fun m => decide (0 ≤ m) && decide (m < M.getD p 0)) (M := M) (p := q) (fun m hm => by
        simp only [Bool.and_eq_true, decide_eq_true_eq] at hm ⊢
        omega) (by rw [h.len]; exact hq) (by simp only [Bool.and_eq_true, decide_eq_true_eq]; omega) (by simp)
      omega
theorem Prov.top {s : Se} {x : Nat} {M : List Int} (h : Prov s x M) {p : Nat} (hp : p < s.D.length) : M.getD p 0 ≤ 144000 := by
  by_cases h0 : 0 ≤ M.getD p 0
  · have h1 := h.high (M.getD p 0).toNat p hp h0 (by omega)
    have h2 : M.countP (fun m => decide (0 ≤ m) && decide (m < M.getD p 0)) ≤ M.length := List.countP_le_length
    have h3 := h.n.le
    have h4 := h.len
    omega
  · omega

/-- One may have come to p by way of q. -/
def cmB (s : Se) (M : List Int) (p q : Nat) : Bool := decide (0 ≤ M.getD q 0) && (nextB s.wd (p : Int) (q : Int) && decide (M.getD q 0 + s.D.getD p 0 = M.getD p 0))
def prv (s : Se) (M : List Int) (p : Nat) : Nat := ((List.range s.D.length).find? (cmB s M p)).getD 0
theorem range_at {n k : Nat} (h : k < n) : (List.range n).getD k 0 = k := by simp [List.getD, h]
theorem prv_at {s : Se} {M : List Int} {p q : Nat} (hq : q < s.D.length) (h : ∀ r, r < q → cmB s M p r = false) (h' : cmB s M p q = true) : prv s M p = q := by
  unfold prv
  rw [find_at (d := 0) (k := q) (by simpa using hq) (fun r hr => by rw [range_at (by omega)]; exact h r hr) (by rw [range_at hq]; exact h'), range_at hq]
  rfl
/-- What is known of a place on the way. -/
structure OnWay (s : Se) (x : Nat) (M : List Int) (p : Nat) : Prop where
  lt : p < s.D.length
  low : 0 ≤ M.getD p 0
theorem least_ex (f : Nat → Bool) : ∀ (q : Nat), f q = true → ∃ r, r ≤ q ∧ f r = true ∧ ∀ k, k < r → f k = false := by
  intro q
  induction q using Nat.strongRecOn with
  | _ q ih =>
    intro h
    by_cases hx : ∃ k, k < q ∧ f k = true
    · obtain ⟨k, hk, hf⟩ := hx
      obtain ⟨r, h1, h2, h3⟩ := ih k hk hf
      exact ⟨r, by omega, h2, h3⟩
    · exact ⟨q, Nat.le_refl _, h, fun k hk => by
        cases e : f k with
        | false => rfl
        | true => exact absurd ⟨k, hk, e⟩ hx⟩
theorem prv_ok {s : Se} {x : Nat} {M : List Int} (h : Prov s x M) {p : Nat} (hp : OnWay s x M p) (hx : p ≠ x) :
    OnWay s x M (prv s M p) ∧ nextB s.wd (p : Int) (prv s M p : Int) = true ∧ M.getD (prv s M p) 0 + s.D.getD p 0 = M.getD p 0 ∧ 1 ≤ s.D.getD p 0 ∧ (∀ r, r < prv s M p → cmB s M p r = false) ∧ cmB s M p (prv s M p) = true := by
  rcases h.came p hp.lt hp.low with e | ⟨q, hq, hd, hn, he⟩
  · exact absurd e hx
  · have hb := h.bear p q hp.lt hq hp.low hd hn
    have hpz : s.D.getD p 0 ≠ 0 := fun e => by have := h.land p hp.lt e; have := hp.low; omega
    have hc := h.n.cost p hp.lt
    have hcm : cmB s M p q = true := by
      unfold cmB
      rw [hn, decide_eq_true hb.1, decide_eq_true (show M.getD q 0 + s.D.getD p 0 = M.getD p 0 by omega)]
      rfl
    obtain ⟨r, h1, h2, h3⟩ := least_ex (cmB s M p) q hcm
    have e := prv_at (by omega) h3 h2
    rw [e]
    have h2' := h2
    unfold cmB at h2
    simp only [Bool.and_eq_true, decide_eq_true_eq] at h2
    exact ⟨⟨by omega, h2.1⟩, h2.2.1, h2.2.2, by omega, h3, h2'⟩
theorem nbs_asc (wd n p : Int) (hw : 1 ≤ wd) : (nbs wd n p).Pairwise (· < ·) := by
  unfold nbs
  have h1 := Int.emod_nonneg p (show wd ≠ 0 by omega)
  have h2 := Int.emod_lt_of_pos p (show 0 < wd by omega)
  generalize p % wd = r at *
  by_cases a : wd ≤ p <;> by_cases b : 0 < r <;> by_cases c : r < wd - 1 <;> by_cases d : p + wd < n <;> simp [a, b, c, d] <;> omega
theorem came_prv {s : Se} {x : Nat} {M : List Int} (h : Prov s x M) {p : Nat} (hp : OnWay s x M p) (hx : p ≠ x) : cameOf s M p = (prv s M p : Int) := by
  obtain ⟨h1, h2, h3, h4, h5, h6⟩ := prv_ok h hp hx
  have hin : (prv s M p : Int) ∈ nbs s.wd s.D.length (p : Int) := (nbs_mem h.n (by omega) (by have := hp.lt; omega)).2 ⟨by omega, by have := h1.lt; omega, h2⟩
  have hc1 : came1 s M p (prv s M p : Int) = true := by
    unfold came1 mAt
    simp only [Int.toNat_natCast]
    rw [decide_eq_true h1.low, decide_eq_true (by omega)]
    rfl
  unfold cameOf
  cases hf : (nbs s.wd s.D.length (p : Int)).find? (came1 s M p) with
  | none =>
    rw [List.find?_eq_none] at hf
    exact absurd hc1 (hf _ hin)
  | some a =>
    simp only [Option.getD_some]
    have hm := List.mem_of_find?_eq_some hf
    obtain ⟨a0, a1, ax⟩ := (nbs_mem h.n (by omega) (by have := hp.lt; omega)).1 hm
    obtain ⟨q, rfl⟩ : ∃ q : Nat, a = (q : Int) := ⟨a.toNat, by omega⟩
    rw [List.find?_eq_some_iff_append] at hf
    obtain ⟨hca, us, bs, hl, hall⟩ := hf
    have hasc := nbs_asc s.wd s.D.length (p : Int) h.n.w0
    rw [hl] at hin hasc
    rw [List.mem_append, List.mem_cons] at hin
    rcases hin with hin | hin | hin
    · have := hall _ hin
      rw [hc1] at this
      exact absurd this (by simp)
    · exact hin.symm
    · exfalso
      have hlt : (q : Int) < (prv s M p : Int) := by
        rw [List.pairwise_append] at hasc
        exact (List.pairwise_cons.1 hasc.2.1).1 _ hin
      have hno := h5 q (by omega)
      unfold came1 mAt at hca
      simp only [Int.toNat_natCast, Bool.and_eq_true, decide_eq_true_eq] at hca
      unfold cmB at hno
      rw [ax, decide_eq_true hca.1, decide_eq_true (show M.getD q 0 + s.D.getD p 0 = M.getD p 0 by omega)] at hno
      exact absurd hno (by simp)

/-- The way back from p. -/
def back (s : Se) (M : List Int) (x : Nat) : Nat → Nat → List Int
  | 0, p => [(p : Int)]
  | f + 1, p => if p = x then [(p : Int)] else (p : Int) :: back s M x f (prv s M p)
theorem back_len (s : Se) (M : List Int) (x : Nat) : ∀ f p, (back s M x f p).length ≤ f + 1 := by
  intro f
  induction f with
  | zero => intro p; simp [back]
  | succ f ih =>
    intro p
    unfold back
    split
    · simp
    · have := ih (prv s M p); simp; omega
theorem back_end (s : Se) (M : List Int) (x : Nat) (f : Nat) : back s M x f x = [(x : Int)] := by
  cases f with
  | zero => rfl
  | succ f => unfold back; rw [if_pos rfl]
/-- On the way back: pre is told already. -/
structure Bk (s : Se) (M : List Int) (x y : Nat) (p f : Nat) (pre : List Int) : Prop where
  on : OnWay s x M p
  le : M.getD p 0 ≤ (f : Int)
  tot : back s M x 144000 y = pre ++ back s M x f p
  len : (pre.length : Int) + M.getD p 0 ≤ 144000
theorem bk_start {s : Se} {x : Nat} {M : List Int} (h : Prov s x M) {y : Nat} (hy : OnWay s x M y) : Bk s M x y y 144000 [] := ⟨hy, h.top hy.lt, rfl, by simpa using h.top hy.lt⟩
theorem Bk.next {s : Se} {M : List Int} {x y p f : Nat} {pre : List Int} (h : Prov s x M) (hb : Bk s M x y p f pre) (hx : p ≠ x) : ∃ f', Bk s M x y (prv s M p) f' (pre ++ [(p : Int)]) ∧ M.getD (prv s M p) 0 < M.getD p 0 := by
  obtain ⟨h1, h2, h3, h4, -, -⟩ := prv_ok h hb.on hx
  have hl := hb.le
  have := h1.low
  have hlen := hb.len
  cases f with
  | zero => omega
  | succ f =>
    have e : (pre ++ [(p : Int)]).length = pre.length + 1 := by simp
    refine ⟨f, ⟨h1, by omega, ?_, by rw [e]; omega⟩, by omega⟩
    rw [hb.tot]
    conv => lhs; unfold back
    rw [if_neg hx]
    simp
theorem Bk.done {s : Se} {M : List Int} {x y f : Nat} {pre : List Int} (hb : Bk s M x y x f pre) : pre ++ [(x : Int)] = back s M x 144000 y := by rw [hb.tot, back_end]

def wayL (s : Se) (x y : Int) (M : List Int) (b : Bool) : List Int × Bool := if (b && onB s y && decide (0 ≤ M.getD y.toNat 0)) = true then ((back s M x.toNat 144000 y.toNat).reverse, true) else ([], false)
def WayPost (s : Se) (x y : Int) (w w' : World) (e : Ending) : Prop := ∃ M b a n cp, CheapAns s x M b ∧ e = .returned (.tuple #[.slice a n cp, .bool (wayL s x y M b).2]) ∧ OwnSl w.heap.size w' (.slice a n cp) (wayL s x y M b).1 ∧ Below w.heap.size w w'
theorem way_ex (s : Se) (x y : Int) : ∃ cs : List Int × Bool, cs.1.length ≤ 1048576 ∧ ∀ M b, CheapAns s x M b → wayL s x y M b = cs := by
  by_cases h : ∃ M b, CheapAns s x M b
  · obtain ⟨M, b, h⟩ := h
    refine ⟨wayL s x y M b, ?_, fun N c h' => by obtain ⟨rfl, rfl⟩ := cheap_one h' h; rfl⟩
    unfold wayL
    split
    · have := back_len s M x.toNat 144000 y.toNat
      simp
      omega
    · simp
  · exact ⟨([], false), by simp, fun N c h' => absurd ⟨N, c, h'⟩ h⟩
theorem way_got {s : Se} {x y : Int} {M : List Int} {V : Bool} (h : ∀ N c, CheapAns s x N c → wayL s x y N c = (M, V)) {w w' : World} {e : Ending} (hp : WayPost s x y w w' e) :
    ∃ a n cp, e = .returned (.tuple #[.slice a n cp, .bool V]) ∧ OwnSl w.heap.size w' (.slice a n cp) M ∧ Below w.heap.size w w' := by
  obtain ⟨N, c, a, n, cp, hc, he, ho, hb⟩ := hp
  rw [h N c hc] at he ho
  exact ⟨a, n, cp, he, ho, hb⟩
/-- What Cheapest's answer says of a place that is reached. -/
theorem cheap_prov {s : Se} {x : Int} {M : List Int} (h : CheapAns s x M true) {y : Nat} (hy : y < s.D.length) : SeaN s ∧ M.length = s.D.length ∧ (∃ xi : Nat, x = (xi : Int) ∧ xi < s.D.length ∧ (0 ≤ M.getD y 0 → Prov s xi M)) ∧ -1 ≤ M.getD y 0 := by
  rcases h with ⟨h1, -, h3, h4⟩ | ⟨-, h2, -⟩
  · rw [Bool.and_eq_true] at h1
    have hn := seaB_n h1.1
    obtain ⟨xi, rfl, hxi⟩ : ∃ n : Nat, x = (n : Int) ∧ n < s.D.length := by
      have := h1.2
      unfold onB at this
      have := inB_true this
      exact ⟨x.toNat, by omega, by omega⟩
    rcases h4 with ⟨-, h5⟩ | ⟨-, h5⟩
    · refine ⟨hn, h3, ⟨xi, rfl, hxi, fun h0 => ?_⟩, ?_⟩
      · rw [h5] at h0; simp [List.getD, hy] at h0
      · rw [h5]; simp [List.getD, hy]
    · have hp := proves_prov h5
      exact ⟨hn, h3, ⟨xi, rfl, hxi, fun _ => hp⟩, hp.low y hy⟩
  · cases h2

end Go.Proofs.Ytdpcacfgbjllhaa

/- The contract of slices.Reverse at a list of numbers. -/
namespace Go.Proofs.Ytdpcacfgbjllhaa
open Go.RowKit

/-- The first i and the last i have changed places. -/
def rvL (xs : List Int) (i : Nat) : List Int := (List.range xs.length).map fun k => if k < i ∨ xs.length ≤ k + i then xs.getD (xs.length - 1 - k) 0 else xs.getD k 0
theorem rvL_len (xs : List Int) (i : Nat) : (rvL xs i).length = xs.length := by simp [rvL]
theorem rvL_at (xs : List Int) (i : Nat) {k : Nat} (hk : k < xs.length) : (rvL xs i).getD k 0 = if k < i ∨ xs.length ≤ k + i then xs.getD (xs.length - 1 - k) 0 else xs.getD k 0 := by
  rw [getD_lt (by rw [rvL_len]; exact hk)]
  simp [rvL]
theorem list_eqD {xs ys : List Int} (h : xs.length = ys.length) (h' : ∀ k, k < xs.length → xs.getD k 0 = ys.getD k 0) : xs = ys := by
  apply List.ext_getElem?
  intro k
  by_cases hk : k < xs.length
  · have := h' k hk
    rw [getD_lt hk, getD_lt (by omega)] at this
    rw [List.getElem?_eq_getElem hk, List.getElem?_eq_getElem (by omega), this]
  · rw [List.getElem?_eq_none (by omega), List.getElem?_eq_none (by omega)]
theorem rvL_zero (xs : List Int) : rvL xs 0 = xs := list_eqD (rvL_len xs 0) (fun k hk => by
  rw [rvL_len] at hk
  rw [rvL_at xs 0 hk, if_neg (by omega)])
theorem rev_at (xs : List Int) {k : Nat} (hk : k < xs.length) : xs.reverse.getD k 0 = xs.getD (xs.length - 1 - k) 0 := by
  rw [getD_lt (by simpa using hk), getD_lt (by omega), List.getElem_reverse]
theorem rvL_done {xs : List Int} {i : Nat} (h : xs.length ≤ 2 * i + 1) : rvL xs i = xs.reverse := list_eqD (by rw [rvL_len]; simp) (fun k hk => by
  rw [rvL_len] at hk
  rw [rvL_at xs i hk, rev_at xs hk]
  split
  · rfl
  · rw [show xs.length - 1 - k = k by omega])
theorem setD_at {L : List Int} {k r : Nat} (hk : k < L.length) (v : Int) : (L.set k v).getD r 0 = if r = k then v else L.getD r 0 := getD_set hk v
theorem rvL_next {xs : List Int} {i j : Nat} (hj : j + i + 1 = xs.length) (hij : i < j) : ((rvL xs i).set i (xs.getD j 0)).set j (xs.getD i 0) = rvL xs (i + 1) := list_eqD (by simp [rvL_len]) (fun k hk => by
  simp only [List.length_set, rvL_len] at hk
  rw [setD_at (by simp [rvL_len]; omega), setD_at (by rw [rvL_len]; omega), rvL_at xs i hk, rvL_at xs (i + 1) hk]
  by_cases e1 : k = j
  · rw [if_pos e1, if_pos (by omega), show xs.length - 1 - k = i by omega]
  · rw [if_neg e1]
    by_cases e2 : k = i
    · rw [if_pos e2, if_pos (by omega), show xs.length - 1 - k = j by omega]
    · rw [if_neg e2]
      by_cases e3 : k < i ∨ xs.length ≤ k + i
      · rw [if_pos e3, if_pos (by omega)]
      · rw [if_neg e3, if_neg (by omega)])

set_option maxRecDepth 10000 in
set_option maxHeartbeats 4000000 in
theorem reverse_any (g cap : Nat) (xs : List Int) (w : World) (h : OwnV w g (ints xs)) (hn : xs.length ≤ 1048576) :
    Calls Try.prog 41 #[.slice (some ⟨g, 0, none⟩) xs.length cap] w fun e w' => e = .returned (.tuple #[]) ∧ OwnV w' g (ints xs.reverse) ∧ Kept (fun b => b = g) w w' := by
  have HO0 : Hid (OwnV w g (ints (rvL xs 0))) := by show OwnV _ _ _; rw [rvL_zero]; exact h
  have HK0 := hide (Kept.refl (fun b => b = g) w)
  have i1 : IntKind.i64.wrap ((xs.length : Int) - 1) = (xs.length : Int) - 1 := by rw [IntKind.wrap_i64]; omega
  clear h
  go_enter Try.func41, Try.ntmps41
  go_wp2
  go_loopg [2, 3] xs.length (fun gg iv jv wr => ∃ i : Nat, i ≤ xs.length ∧ gg = xs.length - i ∧ iv = .int .i64 (i : Int) ∧ jv = .int .i64 ((xs.length : Int) - 1 - (i : Int)) ∧ Hid (OwnV wr g (ints (rvL xs i))) ∧ Hid (Kept (fun b => b = g) w wr))
  case atStart => exact ⟨0, Nat.zero_le _, rfl, rfl, by simp, HO0, HK0⟩
  case round =>
    clear HO0 HK0
    obtain ⟨i, hi, rfl, rfl, rfl, HO, HK⟩ := hrel
    by_cases hij : (i : Int) < (xs.length : Int) - 1 - (i : Int)
    · obtain ⟨j, ej⟩ : ∃ j : Nat, (xs.length : Int) - 1 - (i : Int) = (j : Int) := ⟨xs.length - 1 - i, by omega⟩
      rw [ej] at hij ⊢
      have hj : j + i + 1 = xs.length := by omega
      have hlj : j < xs.length := by omega
      have hli : i < xs.length := by omega
      have hljI : (j : Int) < xs.length := by omega
      have hliI : (i : Int) < xs.length := by omega
      have hij' : i < j := by omega
      have n1 : ¬ i = j := by omega
      have n2 : ¬ j = i := by omega
      have ci := (unhide HO).cell (i := i) (ints_at (by rw [rvL_len]; exact hli))
      have cj := (unhide HO).cell (i := j) (ints_at (by rw [rvL_len]; exact hlj))
      rw [rvL_at xs i hli, if_neg (by omega)] at ci
      rw [rvL_at xs i hlj, if_neg (by omega)] at cj
      have fz := (unhide HO).frozen
      have HN : Hid (OwnV ((wr.setCell ⟨g, i, none⟩ (.int .i64 (xs.getD j 0))).setCell ⟨g, j, none⟩ (.int .i64 (xs.getD i 0))) g (ints (rvL xs (i + 1)))) := by
        show OwnV _ _ _
        rw [← rvL_next hj hij', ← ints_setS, ← ints_setS]
        exact ((unhide HO).set i _ (by rw [ints_length, rvL_len]; exact hli)).set j _ (by rw [List.length_set, ints_length, rvL_len]; exact hlj)
      have HKN : Hid (Kept (fun b => b = g) w ((wr.setCell ⟨g, i, none⟩ (.int .i64 (xs.getD j 0))).setCell ⟨g, j, none⟩ (.int .i64 (xs.getD i 0)))) := Kept.setCell (T := fun b => b = g) (Kept.setCell (T := fun b => b = g) (unhide HK) (p := ⟨g, i, none⟩) rfl _) (p := ⟨g, j, none⟩) rfl _
      generalize xs.getD j 0 = vj at *
      generalize xs.getD i 0 = vi at *
      have EJ := hide ej
      clear ej
      go_wp2
      go_region_with (fail)
      all_goals
        go_wp2
        go_roundg (xs.length - (i + 1))
        case measure => omega
        case rel => first | exact ⟨i + 1, by omega, rfl, by go_num, by congr 1; have := unhide EJ; omega, HN, HKN⟩ | exact ⟨i + 1, by omega, rfl, by go_num, by congr 1; have := unhide EJ; omega, OwnV.step (unhide HN) (Below.refl _ _).drew, (unhide HKN).trans (kept_of_below (Below.refl _ _).drew)⟩
    · have hd : xs.length ≤ 2 * i + 1 := by omega
      have HR : Hid (OwnV wr g (ints xs.reverse)) := by show OwnV _ _ _; rw [← rvL_done hd]; exact unhide HO
      go_wp2
      go_end0
      exact ⟨rfl, unhide HR, unhide HK⟩

end Go.Proofs.Ytdpcacfgbjllhaa

/- The contract of the program's WayOf. -/
namespace Go.Proofs.Ytdpcacfgbjllhaa
open Go.RowKit

theorem cheap_n {s : Se} {x : Int} {M : List Int} (h : CheapAns s x M true) : SeaN s ∧ M.length = s.D.length := by
  rcases h with ⟨h1, -, h3, -⟩ | ⟨-, h2, -⟩
  · rw [Bool.and_eq_true] at h1
    exact ⟨seaB_n h1.1, h3⟩
  · cases h2
theorem ownsRow_got {w : World} {base n size : Nat} {e : TypeId} {v : Value} {xs : List Value} (h : w.ownsRow base e size v (n + 1) xs) : ∃ g cap, v = .slice (some ⟨g, 0, none⟩) (n + 1) cap ∧ n + 1 ≤ cap ∧ cap ≤ maxLen := by
  rcases h.2 with ⟨_, hn⟩ | ⟨g, cap, cur, hv, _, _, hc, hm, _⟩
  · omega
  · exact ⟨g, cap, hv, hc, hm⟩
theorem ints_snocW (xs : List Int) (x : Int) : ints (xs ++ [x]) = ints xs ++ [.int .i64 x] := by simp [ints]
theorem way_no {s : Se} {x y : Int} {M : List Int} {b : Bool} (h : (b && onB s y && decide (0 ≤ M.getD y.toNat 0)) = false) : wayL s x y M b = ([], false) := by
  unfold wayL
  rw [h]
  rfl
theorem way_yes {s : Se} {xi yi : Nat} {M : List Int} (h : onB s (yi : Int) = true) (h0 : 0 ≤ M.getD yi 0) : wayL s (xi : Int) (yi : Int) M true = ((back s M xi 144000 yi).reverse, true) := by
  unfold wayL
  rw [h]
  simp only [Int.toNat_natCast]
  rw [decide_eq_true h0]
  rfl

set_option maxRecDepth 100000 in
set_option maxHeartbeats 16000000 in
theorem implWayOf_any (s : Se) (dao : Option Addr) (dn dc : Nat) (fao : Option Addr) (fn fc : Nat) (x y : Int) (w : World) (hD : IntsIn w (.slice dao dn dc) s.D) (hF : RClosed w (.slice fao fn fc) s.F) :
    Calls Try.prog 12 #[vSea s.wd s.hg (.slice dao dn dc) (.slice fao fn fc), .int .i64 x, .int .i64 y] w fun e w' => WayPost s x y w w' e := by
  have A := Below.alloc1 w (.cells #[.int .i64 s.wd, .int .i64 s.hg, .slice dao dn dc, .slice fao fn fc] 27)
  have O := ownV_alloc w #[.int .i64 s.wd, .int .i64 s.hg, .slice dao dn dc, .slice fao fn fc] 27
  have HCH := hide (implCheapest_any s dao dn dc fao fn fc x _ (hD.below A) (hF.below A))
  have HD := hide hD
  obtain ⟨dao', dc', eD, hdl, hdm, hdc⟩ := hD
  simp only [Value.slice.injEq] at eD
  obtain ⟨rfl, rfl, rfl⟩ := eD
  have HW := hide A
  have HO := hide O
  have b0 := O.cell (i := 0) rfl
  have b1 := O.cell (i := 1) rfl
  have b2 := O.cell (i := 2) rfl
  have b3 := O.cell (i := 3) rfl
  obtain ⟨i0, hinf, hz0, hz1, hz2⟩ := info_parts Try.infoInt8
  clear A O hdc hF
  unfold vSea at HCH ⊢
  go_enter Try.func12, Try.ntmps12
  go_wp2_with fail
  refine (unhide HCH).mono ?_
  rintro e w1 ⟨M, b, ma, mn, mcp, hc, rfl, hom, hb⟩
  replace HW := hide (Below.step (unhide HW) hb)
  replace HO := hide (OwnV.step (unhide HO) hb)
  have hbz := hb.size
  simp only [World.size_alloc] at hbz hom
  have HC := hide hc
  clear hb HCH b0 b1 b2 b3 hc
  have b0 := (unhide HO).cell (i := 0) rfl
  have b1 := (unhide HO).cell (i := 1) rfl
  have b2 := (unhide HO).cell (i := 2) rfl
  have b3 := (unhide HO).cell (i := 3) rfl
  have hmn := hom.at
  subst hmn
  have HOM := hide hom
  clear hom
  cases b with
  | false =>
    have EW : Hid (wayL s x y M false = ([], false)) := way_no rfl
    go_wp2
    refine bodyPost_ret (v := .tuple #[.slice none 0 0, .bool false]) (by simp [results, Try.results12, go_sem]) rfl ⟨M, false, none, 0, 0, unhide HC, by rw [unhide EW], by rw [unhide EW]; exact ⟨none, 0, rfl, Nat.le_refl _, Nat.zero_le _, fun h => absurd rfl h⟩, unhide HW⟩
  | true =>
  obtain ⟨hn, hlen⟩ := cheap_n (unhide HC)
  have HON := hide fun V => isOnSea_any s y dao dc (.slice fao fn fc) V hn
  unfold vSea at HON
  cases h2 : onB s y with
  | false =>
    have EW : Hid (wayL s x y M true = ([], false)) := way_no (by rw [h2]; rfl)
    rw [h2] at HON
    clear h2
    go_wp2_with fail
    refine (unhide HON _).mono ?_
    rintro e w2 ⟨rfl, hb⟩
    replace HW := hide (Below.step (unhide HW) hb)
    clear hb
    go_wp2
    refine bodyPost_ret (v := .tuple #[.slice none 0 0, .bool false]) (by simp [results, Try.results12, go_sem]) rfl ⟨M, true, none, 0, 0, unhide HC, by rw [unhide EW], by rw [unhide EW]; exact ⟨none, 0, rfl, Nat.le_refl _, Nat.zero_le _, fun h => absurd rfl h⟩, unhide HW⟩
  | true =>
  rw [h2] at HON
  obtain ⟨yi, rfl, hyi⟩ : ∃ q : Nat, y = (q : Int) ∧ q < s.D.length := by
    have h3 := h2
    unfold onB at h3
    obtain ⟨a, b⟩ := inB_true h3
    exact ⟨y.toNat, by omega, by omega⟩
  obtain ⟨-, -, ⟨xi, rfl, hxi, hpv⟩, hlow⟩ := cheap_prov (unhide HC) hyi
  obtain ⟨gM, rfl, hgM, hoM⟩ := (unhide HOM).row (k := yi) (by omega)
  have hl1 : M.length ≤ s.D.length := by omega
  have hl2 : s.D.length ≤ M.length := by omega
  have HLEN := hide hlen
  have hle := hn.le
  have cy := hoM.cell (i := yi) (ints_at (by omega))
  have HMR := hide hoM
  have hyI : (yi : Int) < M.length := by omega
  obtain ⟨my, emy⟩ : ∃ c, M.getD yi 0 = c := ⟨_, rfl⟩
  rw [emy] at cy hlow
  have EMY := hide emy
  have HPV := hide hpv
  have HN := hide hn
  clear hlen emy hpv hoM hn
  have hgl := (unhide HMR).lt
  go_wp2_with fail
  refine (unhide HON _).mono ?_
  rintro e w2 ⟨rfl, hb⟩
  replace HW := hide (Below.step (unhide HW) hb)
  replace HO := hide (OwnV.step (unhide HO) hb)
  replace HMR := hide (OwnV.step (unhide HMR) hb)
  replace cy := (hb.cell (lt_of_cell cy)).trans cy
  have hz2' := hb.size
  clear hb HON b0 b1 b2 b3
  by_cases hm1 : my = -1
  · have EW : Hid (wayL s (xi : Int) (yi : Int) M true = ([], false)) := way_no (by
      simp only [Int.toNat_natCast]
      rw [decide_eq_false (show ¬ 0 ≤ M.getD yi 0 by rw [unhide EMY]; omega)]
      simp)
    subst hm1
    go_wp2
    refine bodyPost_ret (v := .tuple #[.slice none 0 0, .bool false]) (by simp [results, Try.results12, go_sem]) rfl ⟨M, true, none, 0, 0, unhide HC, by rw [unhide EW], by rw [unhide EW]; exact ⟨none, 0, rfl, Nat.le_refl _, Nat.zero_le _, fun h => absurd rfl h⟩, unhide HW⟩
  have HP := hide (unhide HPV (by rw [unhide EMY]; omega))
  have dm : (my == -1) = false := by simp [hm1]
  have HEW := hide (way_yes (s := s) (xi := xi) (yi := yi) (M := M) h2 (by rw [unhide EMY]; omega))
  have HBK := hide (bk_start (unhide HP) (y := yi) ⟨hyi, by rw [unhide EMY]; omega⟩)
  have HMB : Hid (∀ i, i < M.length → -9223372036854775808 ≤ M.getD i 0 ∧ M.getD i 0 ≤ 9223372036854775807) := fun i hi => by
    have h1 := (unhide HP).low i (by omega)
    have h3 := (unhide HP).top (p := i) (by omega)
    omega
  have HR0 : Hid ((w2.alloc (.cells #[.int .i64 (yi : Int)] 3)).ownsRow w2.heap.size 3 1 (.slice (some ⟨w2.heap.size, 0, none⟩) 1 1) 1 (ints ([] ++ [(yi : Int)]))) :=
    ⟨rfl, Or.inr ⟨w2.heap.size, 1, #[.int .i64 (yi : Int)], rfl, Nat.le_refl _, Go.Deep.blk_alloc_new _ _, Nat.le_refl _, by unfold maxLen; omega, rfl, rfl⟩⟩
  have A1 := Below.alloc1 w2 (.cells #[.int .i64 (yi : Int)] 3)
  have HWL := hide (Below.step (unhide HW) A1)
  have HOL := hide (OwnV.step (unhide HO) A1)
  have HML := hide (OwnV.step (unhide HMR) A1)
  have hwz : w.heap.size < w2.heap.size := (unhide HO).lt
  have hgz : gM < w2.heap.size := (unhide HMR).lt
  obtain ⟨B, eB⟩ : ∃ z, z = w2.heap.size := ⟨_, rfl⟩
  have HCB := hide fun V h1 h3 p hp hp0 => cameBy_any s dao s.D.length dc (.slice fao fn fc) (.slice (some ⟨gM, 0, none⟩) M.length mcp) M p V (unhide HN) h1 h3 (unhide HLEN) hp hp0 (unhide HMB)
  unfold vSea at HCB
  have hmc : M.length ≤ mcp ∧ mcp ≤ maxLen := by
    obtain ⟨a', c', e', h5, h6, -⟩ := unhide HOM
    simp only [Value.slice.injEq] at e'
    rw [e'.2.2]
    exact ⟨h5, h6⟩
  clear A1 h2 hm1 HBK HW HO HMR HOM
  have HBK := hide (bk_start (unhide HP) (y := yi) ⟨hyi, by rw [unhide EMY]; have := dm; rw [beq_eq_false_iff_ne] at this; omega⟩)
  go_wp2
  rw [← eB] at HR0 hwz hgz ⊢
  have hBL : B < (w2.alloc (.cells #[.int .i64 (yi : Int)] 3)).heap.size := by rw [World.size_alloc, eB]; omega
  clear eB
  go_loopg [10, 11] (M.getD yi 0).toNat (fun g av pv wr => ∃ (p f : Nat) (pre : List Int), pv = .int .i64 (p : Int) ∧ g = (M.getD p 0).toNat ∧ Hid (Bk s M xi yi p f pre) ∧ Hid (wr.ownsRow B 3 1 av (pre.length + 1) (ints (pre ++ [(p : Int)]))) ∧ Hid (Below w.heap.size w wr) ∧ Hid (OwnV wr w.heap.size [.int .i64 s.wd, .int .i64 s.hg, .slice dao s.D.length dc, .slice fao fn fc]) ∧ Hid (OwnV wr gM (ints M)) ∧ B ≤ wr.heap.size)
  case atStart => exact ⟨yi, 144000, [], rfl, rfl, HBK, HR0, HWL, HOL, HML, by omega⟩
  case round =>
    clear HBK HR0 HWL HOL HML hBL
    obtain ⟨p, f, pre, rfl, hgk, HBK, HR, HW, HO, HMR, hBz⟩ := hrel
    have HGK := hide hgk
    have hpl := (unhide HBK).on.lt
    have hp0 := (unhide HBK).on.low
    have hlenb := (unhide HBK).len
    have hpre : pre.length ≤ 144000 := by omega
    clear hgk hlenb
    obtain ⟨g1, cap1, rfl, hcap1, hcap2⟩ := ownsRow_got (unhide HR)
    by_cases hpx : p = xi
    · subst hpx
      have HDN := hide (unhide HBK).done
      have hd : ((p : Int) != (p : Int)) = false := by simp
      obtain ⟨hg1, hO1⟩ := ownsRow_ownG (unhide HR)
      have hll : (pre ++ [(p : Int)]).length = pre.length + 1 := by simp
      have HRV := hide (reverse_any g1 cap1 (pre ++ [(p : Int)]) wr hO1 (by rw [hll]; omega))
      rw [hll] at HRV
      clear hO1
      go_wp2_with fail
      refine (unhide HRV).mono ?_
      rintro e w3 ⟨rfl, hor, hk⟩
      have HWF := hide ((unhide HW).trans (hk.below (unhide HW).size (fun b e => by omega)))
      rw [unhide HDN] at hor
      have hlr : (back s M p 144000 yi).reverse.length = pre.length + 1 := by rw [List.length_reverse, ← unhide HDN]; simp
      have HOR := hide hor
      have HLR := hide hlr
      clear hor hk HRV hlr
      go_wp2
      refine bodyPost_ret (v := .tuple #[.slice (some ⟨g1, 0, none⟩) (pre.length + 1) cap1, .bool true]) (by simp [results, Try.results12, go_sem]) rfl ⟨M, true, _, _, _, unhide HC, by rw [unhide HEW], by rw [unhide HEW]; exact ⟨some ⟨g1, 0, none⟩, cap1, by rw [unhide HLR], by rw [unhide HLR]; exact hcap1, hcap2, fun _ => ⟨g1, rfl, by omega, unhide HOR⟩⟩, unhide HWF⟩
    · have hd : ((p : Int) != (xi : Int)) = true := by simp; omega
      have b0 := (unhide HO).cell (i := 0) rfl
      have b1 := (unhide HO).cell (i := 1) rfl
      have b2 := (unhide HO).cell (i := 2) rfl
      have b3 := (unhide HO).cell (i := 3) rfl
      have HCA := hide (unhide HCB wr ((unhide HD).below (unhide HW)) (OwnV.intsIn (unhide HMR) hmc.1 hmc.2) p hpl hp0)
      rw [came_prv (unhide HP) (unhide HBK).on hpx] at HCA
      obtain ⟨f', hbk', hdec⟩ := (unhide HBK).next (unhide HP) hpx
      have hq0 := hbk'.on.low
      have HBN := hide hbk'
      obtain ⟨q, eq⟩ : ∃ q, q = prv s M p := ⟨_, rfl⟩
      rw [← eq] at HCA HBN hdec hq0
      clear hbk' eq
      go_wp2_with fail
      refine (unhide HCA).mono ?_
      rintro e w3 ⟨rfl, hb⟩
      replace HW := hide (Below.step (unhide HW) hb)
      replace HO := hide (OwnV.step (unhide HO) hb)
      replace HMR := hide (OwnV.step (unhide HMR) hb)
      replace HR := hide (ownsRow_below (unhide HR) hb)
      have hz3 := hb.size
      clear hb HCA b0 b1 b2 b3
      have HR2 := hide (ownsRow_below (unhide HR) (Below.alloc1 w3 (.cells #[.int .i64 (q : Int)] 3)))
      go_wp2_with (at_builtin; refine wpList_append_lies _ rfl _ _ 24 rfl B 3 i0 _ 1 8 Try.underlying24 hinf hz0 hz1 hz2 rfl (by decide) _ (pre.length + 1) _ rfl (unhide HR2) ⟨w3.heap.size, 0, none⟩ 1 1 [.int .i64 (q : Int)] rfl rfl (cell_one_new _ _ _) (by simp [Value.oneCell']) (by omega) (by unfold maxLen; omega) (by omega) (by simp; omega) _ rfl ?_; intro g4 cap4 wa hown hgrow hat hlt4; have HBB := hide (((Below.refl B w3).alloc (by omega) (.cells #[.int .i64 (q : Int)] 3)).grown hgrow (by simp; omega) (fun g hg => ((unhide HR).lt g hg).1)); have HOW := hide hown; clear hown hgrow hat)
      have HWa := hide ((unhide HW).trans ((unhide HBB).mono (by omega)))
      have HOa := hide ((unhide HO).below (unhide HBB) hwz)
      have HMa := hide ((unhide HMR).below (unhide HBB) hgz)
      have hza := (unhide HBB).size
      go_roundg (M.getD q 0).toNat
      case measure => have := unhide HGK; omega
      case rel => exact ⟨q, f', pre ++ [(p : Int)], rfl, rfl, HBN, by rw [ints_snocW, List.length_append]; exact unhide HOW, HWa, HOa, HMa, by omega⟩

end Go.Proofs.Ytdpcacfgbjllhaa

/- The contract of the specification's WayOf. Written by wip/mkwo.py. -/
namespace Go.Proofs.Ytdpcacfgbjllhaa
open Go.RowKit

/-- The sea's box, the costs and the way told so far. -/
structure WQ (w W : World) (box : List Value) (gM : Nat) (M : List Int) (B : Nat) (ov : Value) (xs : List Int) : Prop where
  below : Below w.heap.size w W
  ob : OwnV W w.heap.size box
  oc : OwnV W gM (ints M)
  row : W.ownsRow B 3 1 ov xs.length (ints xs)
  big : B ≤ W.heap.size
theorem WQ.step {w W W' : World} {box : List Value} {gM : Nat} {M : List Int} {B : Nat} {ov : Value} {xs : List Int} (h : WQ w W box gM M B ov xs) (hb : Below W.heap.size W W') : WQ w W' box gM M B ov xs :=
  ⟨Below.step h.below hb, h.ob.step hb, h.oc.step hb, ownsRow_below h.row hb, Nat.le_trans h.big hb.size⟩
theorem cmB_no {s : Se} {M : List Int} {p q : Nat} (h : M.getD q 0 < 0 ∨ nextB s.wd (p : Int) (q : Int) = false ∨ M.getD q 0 + s.D.getD p 0 ≠ M.getD p 0) : cmB s M p q = false := by
  unfold cmB
  rcases h with h | h | h
  · rw [decide_eq_false (by omega)]; rfl
  · rw [h]; simp
  · rw [decide_eq_false h]; simp
theorem cmB_yes {s : Se} {M : List Int} {p q : Nat} (h1 : 0 ≤ M.getD q 0) (h2 : nextB s.wd (p : Int) (q : Int) = true) (h3 : M.getD q 0 + s.D.getD p 0 = M.getD p 0) : cmB s M p q = true := by
  unfold cmB
  rw [decide_eq_true h1, h2, decide_eq_true h3]
  rfl
theorem no_more {s : Se} {M : List Int} {p k : Nat} (h : ∀ r, r < k → cmB s M p r = false) (hk : cmB s M p k = false) : ∀ r, r < k + 1 → cmB s M p r = false := fun r hr => by
  by_cases e : r = k
  · rw [e]; exact hk
  · exact h r (by omega)
theorem ints_oneW (xs : List Int) : ∀ u ∈ ints xs, u.oneCell' = true := by
  intro u hu
  unfold ints at hu
  obtain ⟨x, -, rfl⟩ := List.mem_map.1 hu
  rfl
theorem ints_cons (x : Int) (xs : List Int) : ints (x :: xs) = [.int .i64 x] ++ ints xs := by simp [ints]

set_option maxRecDepth 100000 in
set_option maxHeartbeats 16000000 in
theorem specWayOf_any (s : Se) (dao : Option Addr) (dn dc : Nat) (fao : Option Addr) (fn fc : Nat) (x y : Int) (w : World) (hD : IntsIn w (.slice dao dn dc) s.D) (hF : RClosed w (.slice fao fn fc) s.F) :
    Calls Try.prog 25 #[vSea s.wd s.hg (.slice dao dn dc) (.slice fao fn fc), .int .i64 x, .int .i64 y] w fun e w' => WayPost s x y w w' e := by
  have A := Below.alloc1 w (.cells #[.int .i64 s.wd, .int .i64 s.hg, .slice dao dn dc, .slice fao fn fc] 27)
  have O := ownV_alloc w #[.int .i64 s.wd, .int .i64 s.hg, .slice dao dn dc, .slice fao fn fc] 27
  have HCH := hide (specCheapest_any s dao dn dc fao fn fc x _ (hD.below A) (hF.below A))
  have HD := hide hD
  obtain ⟨dao', dc', eD, hdl, hdm, hdc⟩ := hD
  simp only [Value.slice.injEq] at eD
  obtain ⟨rfl, rfl, rfl⟩ := eD
  have HW := hide A
  have HO := hide O
  have b0 := O.cell (i := 0) rfl
  have b1 := O.cell (i := 1) rfl
  have b2 := O.cell (i := 2) rfl
  have b3 := O.cell (i := 3) rfl
  obtain ⟨i0, hinf, hz0, hz1, hz2⟩ := info_parts Try.infoInt8
  have HDC0 := hide hdc
  clear A O hdc hF
  unfold vSea at HCH ⊢
  go_enter Try.func25, Try.ntmps25
  go_wp2_with fail
  refine (unhide HCH).mono ?_
  rintro e w1 ⟨M, b, ma, mn, mcp, hc, rfl, hom, hb⟩
  replace HW := hide (Below.step (unhide HW) hb)
  replace HO := hide (OwnV.step (unhide HO) hb)
  have hbz := hb.size
  simp only [World.size_alloc] at hbz hom
  have HC := hide hc
  clear hb HCH b0 b1 b2 b3 hc
  have b0 := (unhide HO).cell (i := 0) rfl
  have b1 := (unhide HO).cell (i := 1) rfl
  have b2 := (unhide HO).cell (i := 2) rfl
  have b3 := (unhide HO).cell (i := 3) rfl
  have hmn := hom.at
  subst hmn
  have HOM := hide hom
  clear hom
  cases b with
  | false =>
    have EW : Hid (wayL s x y M false = ([], false)) := way_no rfl
    go_wp2
    refine bodyPost_ret (v := .tuple #[.slice (some ⟨w1.heap.size, 0, none⟩) 0 0, .bool false]) (by simp [results, Try.results25, go_sem]) rfl ⟨M, false, _, 0, 0, unhide HC, by rw [unhide EW], by rw [unhide EW]; exact ⟨_, 0, rfl, Nat.le_refl _, Nat.zero_le _, fun h => absurd rfl h⟩, Below.step (unhide HW) (Below.alloc1 _ _)⟩
  | true =>
  obtain ⟨hn, hlen⟩ := cheap_n (unhide HC)
  have HON := hide fun V => l7Place_any s y (.slice dao s.D.length dc) (.slice fao fn fc) V hn
  unfold vSea at HON
  cases h2 : onB s y with
  | false =>
    have EW : Hid (wayL s x y M true = ([], false)) := way_no (by rw [h2]; rfl)
    rw [h2] at HON
    clear h2
    go_wp2_with fail
    refine (unhide HON _).mono ?_
    rintro e w2 ⟨rfl, hb⟩
    replace HW := hide (Below.step (unhide HW) hb)
    clear hb
    go_wp2
    refine bodyPost_ret (v := .tuple #[.slice (some ⟨w2.heap.size, 0, none⟩) 0 0, .bool false]) (by simp [results, Try.results25, go_sem]) rfl ⟨M, true, _, 0, 0, unhide HC, by rw [unhide EW], by rw [unhide EW]; exact ⟨_, 0, rfl, Nat.le_refl _, Nat.zero_le _, fun h => absurd rfl h⟩, Below.step (unhide HW) (Below.alloc1 _ _)⟩
  | true =>
  rw [h2] at HON
  obtain ⟨yi, rfl, hyi⟩ : ∃ q : Nat, y = (q : Int) ∧ q < s.D.length := by
    have h3 := h2
    unfold onB at h3
    obtain ⟨a, b⟩ := inB_true h3
    exact ⟨y.toNat, by omega, by omega⟩
  obtain ⟨-, -, ⟨xi, rfl, hxi, hpv⟩, hlow⟩ := cheap_prov (unhide HC) hyi
  obtain ⟨gM, rfl, hgM, hoM⟩ := (unhide HOM).row (k := yi) (by omega)
  have hl1 : M.length ≤ s.D.length := by omega
  have hl2 : s.D.length ≤ M.length := by omega
  have HLEN := hide hlen
  have hle := hn.le
  have cy := hoM.cell (i := yi) (ints_at (by omega))
  have HMR := hide hoM
  have hyI : (yi : Int) < M.length := by omega
  obtain ⟨my, emy⟩ : ∃ c, M.getD yi 0 = c := ⟨_, rfl⟩
  rw [emy] at cy hlow
  have EMY := hide emy
  have HPV := hide hpv
  have HN := hide hn
  clear hlen emy hpv hoM hn
  have hgl := (unhide HMR).lt
  go_wp2_with fail
  refine (unhide HON _).mono ?_
  rintro e w2 ⟨rfl, hb⟩
  replace HW := hide (Below.step (unhide HW) hb)
  replace HO := hide (OwnV.step (unhide HO) hb)
  replace HMR := hide (OwnV.step (unhide HMR) hb)
  replace cy := (hb.cell (lt_of_cell cy)).trans cy
  have hz2' := hb.size
  clear hb HON b0 b1 b2 b3
  by_cases hm1 : my = -1
  · have EW : Hid (wayL s (xi : Int) (yi : Int) M true = ([], false)) := way_no (by
      simp only [Int.toNat_natCast]
      rw [decide_eq_false (show ¬ 0 ≤ M.getD yi 0 by rw [unhide EMY]; omega)]
      simp)
    subst hm1
    have dm : decide ((-1 : Int) < 0) = true := rfl
    go_wp2
    refine bodyPost_ret (v := .tuple #[.slice (some ⟨w2.heap.size, 0, none⟩) 0 0, .bool false]) (by simp [results, Try.results25, go_sem]) rfl ⟨M, true, _, 0, 0, unhide HC, by rw [unhide EW], by rw [unhide EW]; exact ⟨_, 0, rfl, Nat.le_refl _, Nat.zero_le _, fun h => absurd rfl h⟩, Below.step (unhide HW) (Below.alloc1 _ _)⟩
  have HP := hide (unhide HPV (by rw [unhide EMY]; omega))
  have dm : decide (my < 0) = false := decide_eq_false (by omega)
  have hm0 : 0 ≤ my := by omega
  have HEW := hide (way_yes (s := s) (xi := xi) (yi := yi) (M := M) h2 (by rw [unhide EMY]; omega))
  have HBK := hide (bk_start (unhide HP) (y := yi) ⟨hyi, by rw [unhide EMY]; omega⟩)
  have HMB : Hid (∀ i, i < M.length → -9223372036854775808 ≤ M.getD i 0 ∧ M.getD i 0 ≤ 9223372036854775807) := fun i hi => by
    have h1 := (unhide HP).low i (by omega)
    have h3 := (unhide HP).top (p := i) (by omega)
    omega
  have A1 := Below.alloc1 w2 (.cells #[.int .i64 (yi : Int)] 3)
  have HQ0 : Hid (WQ w (w2.alloc (.cells #[.int .i64 (yi : Int)] 3)) [.int .i64 s.wd, .int .i64 s.hg, .slice dao s.D.length dc, .slice fao fn fc] gM M w2.heap.size (.slice (some ⟨w2.heap.size, 0, none⟩) 1 1) ([] ++ [(yi : Int)]).reverse) :=
    ⟨Below.step (unhide HW) A1, OwnV.step (unhide HO) A1, OwnV.step (unhide HMR) A1, ⟨rfl, Or.inr ⟨w2.heap.size, 1, #[.int .i64 (yi : Int)], rfl, Nat.le_refl _, Go.Deep.blk_alloc_new _ _, Nat.le_refl _, by unfold maxLen; omega, rfl, rfl⟩⟩, by rw [World.size_alloc]; omega⟩
  have hwz : w.heap.size < w2.heap.size := (unhide HO).lt
  have hgz : gM < w2.heap.size := (unhide HMR).lt
  clear A1 h2 hm1 HW HO HMR HOM
  go_wp2
  generalize w2.heap.size = B at *
  clear hz2'
  obtain ⟨W2, eW2⟩ : ∃ z, z = w2.alloc (.cells #[.int .i64 (yi : Int)] 3) := ⟨_, rfl⟩
  rw [← eW2] at HQ0 ⊢
  clear eW2 cy
  go_loopg [10, 11] (M.getD yi 0).toNat (fun g av pv wr => ∃ (p f : Nat) (pre : List Int), pv = .int .i64 (p : Int) ∧ g = (M.getD p 0).toNat ∧ Hid (Bk s M xi yi p f pre) ∧ Hid (WQ w wr [.int .i64 s.wd, .int .i64 s.hg, .slice dao s.D.length dc, .slice fao fn fc] gM M B av (pre ++ [(p : Int)]).reverse))
  case atStart => exact ⟨yi, 144000, [], rfl, rfl, HBK, HQ0⟩
  case round =>
    clear HBK HQ0
    obtain ⟨p, f, pre, rfl, hgk, HBK, HQ⟩ := hrel
    have HGK := hide hgk
    have hpl := (unhide HBK).on.lt
    have hp0 := (unhide HBK).on.low
    have hlenb := (unhide HBK).len
    have hpre : pre.length ≤ 144000 := by omega
    clear hgk hlenb
    have hll : (pre ++ [(p : Int)]).reverse.length = pre.length + 1 := by simp
    have hrw := (unhide HQ).row
    rw [hll] at hrw
    obtain ⟨g1, cap1, rfl, hcap1, hcap2⟩ := ownsRow_got hrw
    obtain ⟨hg1, hO1⟩ := ownsRow_ownG hrw
    have HLL := hide hll
    clear hrw hll
    by_cases hpx : p = xi
    · subst hpx
      have HDN := hide (unhide HBK).done
      have hd : ((p : Int) != (p : Int)) = false := by simp
      have HWF := hide (unhide HQ).below
      rw [unhide HDN] at hO1
      have hlr : (back s M p 144000 yi).reverse.length = pre.length + 1 := by rw [List.length_reverse, ← unhide HDN]; simp
      have HOR := hide hO1
      have HLR := hide hlr
      clear hO1 hlr
      go_wp2
      refine bodyPost_ret (v := .tuple #[.slice (some ⟨g1, 0, none⟩) (pre.length + 1) cap1, .bool true]) (by simp [results, Try.results25, go_sem]) rfl ⟨M, true, _, _, _, unhide HC, by rw [unhide HEW], by rw [unhide HEW]; exact ⟨some ⟨g1, 0, none⟩, cap1, by rw [unhide HLR], by rw [unhide HLR]; exact hcap1, hcap2, fun _ => ⟨g1, rfl, by omega, unhide HOR⟩⟩, unhide HWF⟩
    have hd : ((p : Int) != (xi : Int)) = true := by simp; omega
    obtain ⟨po1, po2, po3, po4, po5, po6⟩ := prv_ok (unhide HP) (unhide HBK).on hpx
    have HPQ : Hid (∀ q, q < s.D.length → (∀ r, r < q → cmB s M p r = false) → cmB s M p q = true → q = prv s M p) := fun q h1 h2 h3 => (prv_at h1 h2 h3).symm
    have HNX := hide ((unhide HBK).next (unhide HP) hpx)
    have HPL : Hid (∀ r, r < s.D.length + 0 → r = prv s M p → cmB s M p r = true) := fun r _ e => by rw [e]; exact po6
    have hprl := po1.lt
    clear hO1 po1 po2 po3 po4 po5 po6
    go_wp2
    generalize wr = wo at *
    go_loopg [11, 12] s.D.length (fun g pv iv wr => ∃ q : Nat, pv = .int .i64 (p : Int) ∧ q ≤ s.D.length ∧ g = s.D.length - q ∧ iv = .int .i64 (q : Int) ∧ Hid (∀ r, r < q → cmB s M p r = false) ∧ Hid (WQ w wr [.int .i64 s.wd, .int .i64 s.hg, .slice dao s.D.length dc, .slice fao fn fc] gM M B (.slice (some ⟨g1, 0, none⟩) (pre.length + 1) cap1) (pre ++ [(p : Int)]).reverse))
    case atStart => exact ⟨0, rfl, Nat.zero_le _, rfl, rfl, fun r hr => by omega, HQ⟩
    case round =>
      clear HQ
      obtain ⟨q, rfl, hq, rfl, rfl, HNO, HQ⟩ := hrel
      by_cases hqn : q < s.D.length
      case neg =>
        exfalso
        have := unhide HNO (prv s M p) (by omega)
        rw [unhide HPL (prv s M p) (by omega) rfl] at this
        cases this
      have hqi : (q : Int) < s.D.length := by omega
      have hqm : (q : Int) < M.length := by omega
      have hpi : (p : Int) < s.D.length := by omega
      have hpm : (p : Int) < M.length := by omega
      obtain ⟨bd, od, edd, hcd⟩ := unhide HDC0 p hpl
      have eD := wcell3 hcd (unhide HQ).below
      have a0 := (unhide HQ).ob.cell (i := 0) rfl
      have a1 := (unhide HQ).ob.cell (i := 1) rfl
      have a2 := (unhide HQ).ob.cell (i := 2) rfl
      have a3 := (unhide HQ).ob.cell (i := 3) rfl
      have eQ := (unhide HQ).oc.cell (i := q) (ints_at (by omega))
      have eP := (unhide HQ).oc.cell (i := p) (ints_at (by omega))
      obtain ⟨dp, edp⟩ : ∃ c, s.D.getD p 0 = c := ⟨_, rfl⟩
      obtain ⟨mq, emq⟩ : ∃ c, M.getD q 0 = c := ⟨_, rfl⟩
      obtain ⟨mp, emp⟩ : ∃ c, M.getD p 0 = c := ⟨_, rfl⟩
      have hdb := (unhide HN).cost p hpl
      have hq1 := (unhide HP).top hqn
      have hq0 := (unhide HP).low q hqn
      rw [edp] at eD hdb
      rw [emq] at eQ hq1 hq0
      rw [emp] at eP
      obtain ⟨hdb0, hdb1⟩ := hdb
      subst edd
      have EDP := hide edp
      have EMQ := hide emq
      have EMP := hide emp
      clear hcd edp emq emp
      have p0 := fun x' : Gr wr => gr_cell a0 x'
      have p1 := fun x' : Gr wr => gr_cell a1 x'
      have p2 := fun x' : Gr wr => gr_cell a2 x'
      have p3 := fun x' : Gr wr => gr_cell a3 x'
      have rQ := fun x' : Gr wr => gr_cell eQ x'
      have rP := fun x' : Gr wr => gr_cell eP x'
      have rD := fun x' : Gr wr => gr_cell eD x'
      have gsome := gr_some wr
      have S1 := hide fun x' : Gr wr => l7Next_any s (p : Int) (q : Int) (.slice (some ⟨bd, od, none⟩) s.D.length dc) (.slice fao fn fc) x'.val (unhide HN) (by omega) hpi (by omega) hqi
      unfold vSea at S1
      by_cases c1 : 0 ≤ mq
      case neg =>
        have d3 : decide (0 ≤ mq) = false := decide_eq_false c1
        have HCN : Hid (cmB s M p q = false) := cmB_no (Or.inl (by rw [unhide EMQ]; omega))
        go_wp2
        refine wp_region_grown (by kernel_rfl) (by kernel_rfl) ?_
        repeat (go_big_quiet_step (fail))
        refine wpQuiet_nil ?_
        intro w1 hw1
        obtain ⟨z', hz⟩ := hw1
        have hb1 : Below wr.heap.size wr w1 := hz ▸ z'.ok
        clear hz gsome
        go_wp2
        go_roundg (s.D.length - (q + 1))
        case measure => omega
        case rel => exact ⟨q + 1, rfl, by omega, rfl, by go_num, no_more (unhide HNO) (unhide HCN), hide ((unhide HQ).step hb1)⟩
      have d3 : decide (0 ≤ mq) = true := decide_eq_true c1
      cases h5 : nextB s.wd (p : Int) (q : Int) with
      | false =>
        rw [h5] at S1
        have HCN : Hid (cmB s M p q = false) := cmB_no (Or.inr (Or.inl h5))
        clear h5
        go_wp2
        refine wp_region_grown (by kernel_rfl) (by kernel_rfl) ?_
        repeat (go_big_quiet_step (fail))
        go_big_quiet_want
        go_big_quiet_op
        go_big_quiet_call (exact calls_grown (unhide S1 _))
        repeat (go_big_quiet_step (fail))
        refine wpQuiet_nil ?_
        intro w1 hw1
        obtain ⟨z', hz⟩ := hw1
        have hb1 : Below wr.heap.size wr w1 := hz ▸ z'.ok
        clear hz gsome
        go_wp2
        go_roundg (s.D.length - (q + 1))
        case measure => omega
        case rel => exact ⟨q + 1, rfl, by omega, rfl, by go_num, no_more (unhide HNO) (unhide HCN), hide ((unhide HQ).step hb1)⟩
      | true =>
      rw [h5] at S1
      have hwq : IntKind.i64.wrap (mq + dp) = mq + dp := by rw [IntKind.wrap_i64]; omega
      by_cases c2 : mq + dp = mp
      case neg =>
        have d4 : (mq + dp == mp) = false := by simp [c2]
        have HCN : Hid (cmB s M p q = false) := cmB_no (Or.inr (Or.inr (by rw [unhide EMQ, unhide EDP, unhide EMP]; exact c2)))
        clear h5 c2
        go_wp2
        refine wp_region_grown (by kernel_rfl) (by kernel_rfl) ?_
        repeat (go_big_quiet_step (fail))
        go_big_quiet_want
        go_big_quiet_op
        go_big_quiet_call (exact calls_grown (unhide S1 _))
        repeat (go_big_quiet_step (fail))
        refine wpQuiet_nil ?_
        intro w1 hw1
        obtain ⟨z', hz⟩ := hw1
        have hb1 : Below wr.heap.size wr w1 := hz ▸ z'.ok
        clear hz gsome
        go_wp2
        go_roundg (s.D.length - (q + 1))
        case measure => omega
        case rel => exact ⟨q + 1, rfl, by omega, rfl, by go_num, no_more (unhide HNO) (unhide HCN), hide ((unhide HQ).step hb1)⟩
      have d4 : (mq + dp == mp) = true := by simp [c2]
      have HYS : Hid (cmB s M p q = true) := cmB_yes (by rw [unhide EMQ]; exact c1) h5 (by rw [unhide EMQ, unhide EDP, unhide EMP]; exact c2)
      have HEQ := hide (unhide HPQ q hqn (unhide HNO) (unhide HYS))
      obtain ⟨f', hbk', hdec⟩ := unhide HNX
      rw [← unhide HEQ] at hbk' hdec
      have HBN := hide hbk'
      have HDEC := hide hdec
      clear h5 c2 hbk' hdec
      go_wp2
      refine wp_region_grown (by kernel_rfl) (by kernel_rfl) ?_
      repeat (go_big_quiet_step (fail))
      go_big_quiet_want
      go_big_quiet_op
      go_big_quiet_call (exact calls_grown (unhide S1 _))
      repeat (go_big_quiet_step (fail))
      refine wpQuiet_nil ?_
      intro w1 hw1
      obtain ⟨z', hz⟩ := hw1
      have hb1 : Below wr.heap.size wr w1 := hz ▸ z'.ok
      clear hz gsome
      have HQ1 := hide ((unhide HQ).step hb1)
      have hzw1 := (unhide HQ1).big
      have HNR : Hid ((w1.alloc (.cells #[.int .i64 (q : Int)] 3)).ownsRow B 3 1 (.slice (some ⟨w1.heap.size, 0, none⟩) 1 1) 1 [.int .i64 (q : Int)]) :=
        ⟨rfl, Or.inr ⟨w1.heap.size, 1, #[.int .i64 (q : Int)], rfl, by omega, Go.Deep.blk_alloc_new _ _, Nat.le_refl _, by unfold maxLen; omega, rfl, rfl⟩⟩
      have hrw1 := (unhide HQ1).row
      rw [unhide HLL] at hrw1
      have hOld := OwnV.step (ownsRow_ownG hrw1).2 (Below.alloc1 w1 (.cells #[.int .i64 (q : Int)] 3))
      have HNW : Hid (∀ j u, (ints (pre ++ [(p : Int)]).reverse)[j]? = some u → (w1.alloc (.cells #[.int .i64 (q : Int)] 3)).cell? ((⟨g1, 0, none⟩ : Addr).add j) = some u) := fun j u hu => by
        rw [Go.WideShapes.add_plain, Nat.zero_add]
        exact hOld.cell hu
      have HLI : Hid ((ints (pre ++ [(p : Int)]).reverse).length = (pre.length + 1) * 1) := by show _ = _; rw [ints_length, unhide HLL]; omega
      clear hrw1 hOld
      go_wp2_with (at_builtin; refine wpList_append_lies _ rfl _ _ 24 rfl B 3 i0 _ 1 8 Try.underlying24 hinf hz0 hz1 hz2 rfl (by decide) _ 1 _ rfl (unhide HNR) ⟨g1, 0, none⟩ (pre.length + 1) cap1 (ints (pre ++ [(p : Int)]).reverse) rfl (unhide HLI) (unhide HNW) (ints_oneW _) (by omega) (by unfold maxLen; omega) (by omega) (by simp; omega) _ rfl ?_; intro g4 cap4 wa hown hgrow hat hlt4; have HBB := hide (((Below.refl B w1).alloc (by omega) (.cells #[.int .i64 (q : Int)] 3)).grown hgrow (by simp; omega) (fun g hg => ((unhide HNR).lt g hg).1)); have HOW := hide hown; clear hown hgrow hat)
      have HQ2 : Hid (WQ w wa [.int .i64 s.wd, .int .i64 s.hg, .slice (some ⟨bd, od, none⟩) s.D.length dc, .slice fao fn fc] gM M B (.slice (some ⟨g4, 0, none⟩) (1 + (pre.length + 1)) cap4) ((pre ++ [(p : Int)]) ++ [(q : Int)]).reverse) := by
        have e1 : ((pre ++ [(p : Int)]) ++ [(q : Int)]).reverse = (q : Int) :: (pre ++ [(p : Int)]).reverse := by simp
        have e2 : ((q : Int) :: (pre ++ [(p : Int)]).reverse).length = 1 + (pre.length + 1) := by simp; omega
        have hz := (unhide HBB).size
        have hbg := (unhide HQ1).big
        refine ⟨(unhide HQ1).below.trans ((unhide HBB).mono (by omega)), (unhide HQ1).ob.below (unhide HBB) hwz, (unhide HQ1).oc.below (unhide HBB) hgz, ?_, by omega⟩
        rw [e1, e2, ints_cons]
        exact unhide HOW
      go_roundg (M.getD q 0).toNat
      case measure => have h8 := unhide HGK; have h9 := unhide HDEC; have h7 := unhide EMQ; omega
      case rel => exact ⟨q, f', pre ++ [(p : Int)], rfl, rfl, HBN, HQ2⟩

end Go.Proofs.Ytdpcacfgbjllhaa

/- Contracts of the laws' own markSea and heldSea. -/
namespace Go.Proofs.Ytdpcacfgbjllhaa
open Go.RowKit

theorem markClosedS_nil (ao : Option Addr) (cap : Nat) (k : Int) (w : World) : Calls Try.prog 54 #[.slice ao 0 cap, .int .i64 k] w fun e w' => e = .returned (.int .i64 k) ∧ w = w' := by
  go_enter Try.func54, Try.ntmps54
  go_wp2
  go_loopg [1, 5] 0 (fun _ kv iv wr => w = wr ∧ iv = .int .i64 0 ∧ kv = .int .i64 k)
  case atStart => exact ⟨rfl, rfl, rfl⟩
  case round =>
    obtain ⟨rfl, rfl, rfl⟩ := hrel
    go_wp2
    go_ret
    exact ⟨rfl, rfl⟩
/-- A list of features at block g, where there is one. -/
def ClAt (w : World) (ao : Option Addr) (g : Nat) (vs : List Value) (F : List ClosedT) : Prop := F ≠ [] → ao = some ⟨g, 0, none⟩ ∧ OwnV w g vs
def clMarks (k : Int) (n : Nat) : List Value := (List.range (n * 6)).map (mkClosed k)

theorem markClosedS_o (ao : Option Addr) (cap : Nat) (F : List ClosedT) (k : Int) (g : Nat) (w : World) (h : ClAt w ao g (recCells 6 eClosed F) F) (hn : F.length ≤ 1048576) (hk0 : 0 ≤ k) (hk1 : k ≤ 1152921504606846976) :
    Calls Try.prog 54 #[.slice ao F.length cap, .int .i64 k] w fun e w' => e = .returned (.int .i64 (k + 6 * (F.length : Int))) ∧ Kept (fun b => b = g ∧ F ≠ []) w w' ∧ ClAt w' ao g (clMarks k F.length) F := by
  by_cases hne : F = []
  · subst hne
    refine (markClosedS_nil ao cap k w).mono ?_
    rintro e w' ⟨rfl, rfl⟩
    exact ⟨by simp, Kept.refl _ _, fun h => absurd rfl h⟩
  · obtain ⟨rfl, ho⟩ := h hne
    refine (markClosedS_any g cap F.length _ k w ho (by rw [recCells_length]; omega) hn hk0 hk1).mono ?_
    rintro e w' ⟨rfl, hk, ho'⟩
    exact ⟨rfl, hk.mono (fun b _ hb => ⟨hb, hne⟩), fun _ => ⟨rfl, ho'⟩⟩
theorem ClAt.step {w w' : World} {ao : Option Addr} {g : Nat} {vs : List Value} {F : List ClosedT} (h : ClAt w ao g vs F) (hb : Below w.heap.size w w') : ClAt w' ao g vs F := fun hne => ⟨(h hne).1, (h hne).2.step hb⟩
theorem ClAt.kept {T : Nat → Prop} {w w' : World} {ao : Option Addr} {g : Nat} {vs : List Value} {F : List ClosedT} (h : ClAt w ao g vs F) (hk : Kept T w w') (hg : ¬ T g) : ClAt w' ao g vs F := fun hne => ⟨(h hne).1, (h hne).2.kept hk hg⟩

set_option maxHeartbeats 1600000 in
theorem markSea_any (wd hg : Int) (dao : Option Addr) (dc : Nat) (fao : Option Addr) (fc : Nat) (D : List Int) (F : List ClosedT) (g1 g2 : Nat) (k : Int) (w : World) (h1 : D ≠ [] → dao = some ⟨g1, 0, none⟩ ∧ OwnV w g1 (ints D)) (h2 : ClAt w fao g2 (recCells 6 eClosed F) F)
    (hne : g1 ≠ g2) (hl1 : g1 < w.heap.size) (hD : D.length ≤ 1048576) (hF : F.length ≤ 1048576) (hk0 : 0 ≤ k) (hk1 : k ≤ 1073741824) :
    Calls Try.prog 22 #[vSea wd hg (.slice dao D.length dc) (.slice fao F.length fc), .int .i64 k] w fun e w' => e = .returned (.int .i64 (k + D.length + 6 * (F.length : Int))) ∧ Kept (fun b => b = g1 ∨ b = g2) w w' ∧ (D ≠ [] → OwnV w' g1 (ints (marks k D.length))) ∧ ClAt w' fao g2 (clMarks (k + D.length) F.length) F := by
  have A := Below.alloc1 w (.cells #[.int .i64 wd, .int .i64 hg, .slice dao D.length dc, .slice fao F.length fc] 27)
  have HO := hide (ownV_alloc w #[.int .i64 wd, .int .i64 hg, .slice dao D.length dc, .slice fao F.length fc] 27)
  have HM1 := hide (markIntS_any dao dc D k g1 _ (fun h => ⟨(h1 h).1, (h1 h).2.step A⟩) hD hk0 (by omega))
  have H2 := hide (h2.step A)
  have HK := hide (kept_of_below (T := fun b => b = g1 ∨ b = g2) A)
  clear A h1 h2
  unfold vSea
  go_enter Try.func22, Try.ntmps22
  go_wp2_with fail
  refine (unhide HM1).mono ?_
  rintro e w1 ⟨rfl, hk, ho1⟩
  have c3 := OwnV.cell (OwnV.kept (unhide HO) hk (by omega)) (i := 3) rfl
  have H2' := hide ((unhide H2).kept hk (by omega))
  have HK1 := hide (Kept.trans (unhide HK) (hk.mono (fun b _ hb => Or.inl hb.1)))
  have HO1 := hide ho1
  clear hk ho1 HM1 HO H2 HK
  have HM2 := hide (markClosedS_o fao fc F (k + D.length) g2 w1 (unhide H2') hF (by omega) (by omega))
  go_wp2_with fail
  refine (unhide HM2).mono ?_
  rintro e w2 ⟨rfl, hk, ho2⟩
  have HK2 := hide (Kept.trans (unhide HK1) (hk.mono (fun b _ hb => Or.inr hb.1)))
  have HO1' : Hid (D ≠ [] → OwnV w2 g1 (ints (marks k D.length))) := fun h => OwnV.kept (unhide HO1 h) hk (by omega)
  have HO2 := hide ho2
  clear hk ho2 HM2 HO1 HK1 H2' c3
  go_wp2
  go_ret
  exact ⟨rfl, unhide HK2, unhide HO1', unhide HO2⟩

end Go.Proofs.Ytdpcacfgbjllhaa

/- Blocks of the call's own, of any cells: boxes and rows beside one another. No statement about the program stands here. -/
namespace Go.Proofs.Ytdpcacfgbjllhaa
open Go.RowKit

/-- The blocks L (number and first cells) of the call's own. -/
structure Blks (w W : World) (L : List (Nat × List Value)) : Prop where
  all : ∀ p ∈ L, OwnV W p.1 p.2
  below : Below w.heap.size w W
  own : ∀ p ∈ L, w.heap.size ≤ p.1
theorem Blks.step {w W W' : World} {L : List (Nat × List Value)} (h : Blks w W L) (hb : Below W.heap.size W W') : Blks w W' L := ⟨fun p hp => (h.all p hp).step hb, Below.step h.below hb, h.own⟩
theorem Blks.lt {w W : World} {L : List (Nat × List Value)} (h : Blks w W L) : ∀ p ∈ L, p.1 < W.heap.size := fun p hp => (h.all p hp).lt
theorem Blks.push {w W : World} {L : List (Nat × List Value)} (h : Blks w W L) {g : Nat} {vs : List Value} (ho : OwnV W g vs) (hg : w.heap.size ≤ g) : Blks w W ((g, vs) :: L) :=
  ⟨fun p hp => by rcases List.mem_cons.1 hp with rfl | hp; exact ho; exact h.all p hp, h.below, fun p hp => by rcases List.mem_cons.1 hp with rfl | hp; exact hg; exact h.own p hp⟩
theorem Blks.made {w W : World} {L : List (Nat × List Value)} (h : Blks w W L) (cs : Array Value) (t : TypeId) : Blks w (W.alloc (.cells cs t)) ((W.heap.size, cs.toList) :: L) :=
  (h.step (Below.alloc1 _ _)).push (ownV_alloc _ _ _) h.below.size
theorem Blks.at {w W : World} {L : List (Nat × List Value)} (h : Blks w W L) {g : Nat} {vs : List Value} (hp : (g, vs) ∈ L) : OwnV W g vs := h.all _ hp
theorem Blks.less {w W : World} {L L' : List (Nat × List Value)} (h : Blks w W L) (hs : ∀ p ∈ L', p ∈ L) : Blks w W L' := ⟨fun p hp => h.all p (hs p hp), h.below, fun p hp => h.own p (hs p hp)⟩
theorem Blks.apart {w W : World} {L : List (Nat × List Value)} (h : Blks w W L) {g : Nat} {vs : List Value} (hp : (g, vs) ∈ L) : ¬ W.heap.size = g ∧ ¬ g = W.heap.size := by
  have : g < W.heap.size := h.lt _ hp
  omega
theorem Blks.drew {w W : World} {L : List (Nat × List Value)} (h : Blks w W L) : Blks w W.drew L := ⟨fun p hp => (h.all p hp).drew, h.below.drew, h.own⟩
theorem Blks.kept {T : Nat → Prop} {w W W' : World} {L L' : List (Nat × List Value)} (h : Blks w W L) (hk : Kept T W W') (hT : ∀ b, T b → w.heap.size ≤ b) (hs : ∀ p ∈ L', p ∈ L ∧ ¬ T p.1) : Blks w W' L' :=
  ⟨fun p hp => (h.all p (hs p hp).1).kept hk (hs p hp).2, h.below.trans (hk.below h.below.size hT), fun p hp => h.own p (hs p hp).1⟩
theorem blks_nil (w : World) : Blks w w [] := ⟨fun p hp => by simp at hp, Below.refl _ _, fun p hp => by simp at hp⟩

end Go.Proofs.Ytdpcacfgbjllhaa

/- The law of WayOf, walked. Written by wip/mkexact7.py. -/
namespace Go.Proofs.Ytdpcacfgbjllhaa
open Go.RowKit

set_option maxRecDepth 10000 in
set_option maxHeartbeats 8000000 in
theorem lawWayOf_any (s : Se) (dao : Option Addr) (dn dc : Nat) (fao : Option Addr) (fn fc : Nat) (x : Int) (y : Int) (w : World) (hD : IntsIn w (.slice dao dn dc) s.D) (hF : RClosed w (.slice fao fn fc) s.F) :
    Calls Try.prog 5 #[vSea s.wd s.hg (.slice dao dn dc) (.slice fao fn fc), .int .i64 x, .int .i64 y] w fun e w' => e = .returned (.bool true) ∧ Below w.heap.size w w' := by
  have HB := hide ((blks_nil w).made #[.int .i64 s.wd, .int .i64 s.hg, .slice dao dn dc, .slice fao fn fc] 42)
  obtain ⟨⟨M, V1⟩, hM, hCS⟩ := way_ex s x y
  dsimp only at hM hCS
  have HSP := hide fun dao dn dc fao fn fc V h1 h2 => (specWayOf_any s dao dn dc fao fn fc x y V h1 h2).mono (fun e w' h => way_got hCS h)
  have HI := hide fun dao dn dc fao fn fc V h1 h2 => (implWayOf_any s dao dn dc fao fn fc x y V h1 h2).mono (fun e w' h => way_got hCS h)
  clear hCS
  have HSZ := hide (szSea_any s.wd s.hg dao dn dc fao fn fc s.D s.F 1048576 _ (hD.below (unhide HB).below) (hF.below (unhide HB).below) (by omega) (by omega))
  have HTO : Hid (s.D.length ≤ 1048576 → s.F.length ≤ 1048576 → ∀ V, Below w.heap.size w V → Calls Try.prog 19 #[vSea s.wd s.hg (.slice dao dn dc) (.slice fao fn fc)] V fun e w' => ∃ g1 g2, e = .returned (vSea s.wd s.hg (.slice (some ⟨g1, 0, none⟩) s.D.length s.D.length) (.slice (some ⟨g2, 0, none⟩) s.F.length s.F.length)) ∧ V.heap.size ≤ g1 ∧ g1 < g2 ∧ OwnV w' g1 (ints s.D) ∧ OwnV w' g2 (recCells 6 eClosed s.F) ∧ Below V.heap.size V w') :=
    fun h1 h2 V hV => toSea_any s.wd s.hg dao dn dc fao fn fc s.D s.F V (hD.below hV) (hF.below hV) h1 h2
  clear hD hF
  unfold vSea at HSZ HTO HSP HI ⊢
  go_enter Try.func5, Try.ntmps5
  go_wp2_with fail
  refine (unhide HSZ).mono ?_
  rintro e w1 ⟨r, rfl, hr0, hr1, hr2, hb⟩
  replace HB := hide ((unhide HB).step hb)
  have HR2 := hide hr2
  clear hb HSZ hr2
  by_cases hr : r < 0
  · have HW := hide (unhide HB).below
    go_wp2
    go_ret
    exact ⟨rfl, unhide HW⟩
  obtain ⟨hsD, hsF⟩ := unhide HR2 (by omega)
  replace HTO := hide (unhide HTO hsD hsF)
  have hq := (unhide HB).at (g := w.heap.size) (vs := [.int .i64 s.wd, .int .i64 s.hg, .slice dao dn dc, .slice fao fn fc]) (by simp)
  have a0 := hq.cell (i := 0) rfl
  have a1 := hq.cell (i := 1) rfl
  have a2 := hq.cell (i := 2) rfl
  have a3 := hq.cell (i := 3) rfl
  clear hq
  go_wp2_with fail
  refine (unhide HTO _ (unhide HB).below).mono ?_
  rintro e w2 ⟨g1, g2, rfl, hg1, hg2, ho1, ho2, hb⟩
  have zb := (unhide HB).below.size
  replace HB := hide ((unhide HB).step hb)
  have HC := hide (unhide HSP _ _ _ _ _ _ _ (OwnV.intsIn (ho1) (Nat.le_refl _) (by unfold maxLen; omega)) (OwnV.recsIn (ho2) (Nat.le_refl _) (by unfold maxLen; omega)))
  clear hb ho1 ho2 hg1 hg2 a0 a1 a2 a3
  go_wp2_with fail
  refine (unhide HC).mono ?_
  rintro e w3 ⟨ak, nk, ck, rfl, ho, hb⟩
  have zb2 := (unhide HB).below.size
  replace HB := hide ((unhide HB).step hb)
  have HS := hide ho.upto
  clear hb HC ho HSP
  have hq := (unhide HB).at (g := w.heap.size) (vs := [.int .i64 s.wd, .int .i64 s.hg, .slice dao dn dc, .slice fao fn fc]) (by simp)
  have a0 := hq.cell (i := 0) rfl
  have a1 := hq.cell (i := 1) rfl
  have a2 := hq.cell (i := 2) rfl
  have a3 := hq.cell (i := 3) rfl
  clear hq
  go_wp2_with fail
  refine (unhide HTO _ (unhide HB).below).mono ?_
  rintro e w4 ⟨g3, g4, rfl, hg3, hg4, ho1, ho2, hb⟩
  have hwB2 : w.heap.size < w3.heap.size := (unhide HB).lt (w.heap.size, [.int .i64 s.wd, .int .i64 s.hg, .slice dao dn dc, .slice fao fn fc]) (by simp)
  have hl3 := ho1.lt
  have hl4 := ho2.lt
  have AX := Below.step hb (Below.alloc1 w4 (.cells #[.int .i64 s.wd, .int .i64 s.hg, .slice (some ⟨g3, 0, none⟩) s.D.length s.D.length, .slice (some ⟨g4, 0, none⟩) s.F.length s.F.length] 27))
  replace HS := hide ((unhide HS).below AX)
  clear AX
  replace HB := hide (((((unhide HB).step hb).push ho1 (by omega)).push ho2 (by omega)).made #[.int .i64 s.wd, .int .i64 s.hg, .slice (some ⟨g3, 0, none⟩) s.D.length s.D.length, .slice (some ⟨g4, 0, none⟩) s.F.length s.F.length] 27)
  clear hb ho1 ho2 a0 a1 a2 a3
  have HIC := hide (unhide HI _ _ _ _ _ _ _ (OwnV.intsIn ((unhide HB).at (g := g3) (vs := ints s.D) (by simp)) (Nat.le_refl _) (by unfold maxLen; omega)) (OwnV.recsIn ((unhide HB).at (g := g4) (vs := recCells 6 eClosed s.F) (by simp)) (Nat.le_refl _) (by unfold maxLen; omega)))
  go_wp2_with fail
  refine (unhide HIC).mono ?_
  rintro e w5 ⟨ag, ng, cg, rfl, ho, hb⟩
  replace HB := hide ((unhide HB).step hb)
  replace HS := hide ((unhide HS).below hb)
  have hu := ho.upto
  simp only [World.size_alloc] at hu
  have HG := hide hu
  clear hu
  have z5 := hb.size
  simp only [World.size_alloc] at z5
  clear hb HIC ho
  generalize w4.heap.size = gx at *
  go_wp2_with fail
  refine (eqIntS_o _ _ M _ (unhide HG).inn (unhide HS).inn).mono ?_
  rintro e w6 ⟨rfl, hb⟩
  replace HB := hide ((unhide HB).step hb); replace HS := hide ((unhide HS).below hb); replace HG := hide ((unhide HG).below hb)
  have zw6 := hb.size
  clear hb
  have hq := (unhide HB).at (g := w.heap.size) (vs := [.int .i64 s.wd, .int .i64 s.hg, .slice dao dn dc, .slice fao fn fc]) (by simp)
  have a0 := hq.cell (i := 0) rfl
  have a1 := hq.cell (i := 1) rfl
  have a2 := hq.cell (i := 2) rfl
  have a3 := hq.cell (i := 3) rfl
  clear hq
  have hq := (unhide HB).at (g := gx) (vs := [.int .i64 s.wd, .int .i64 s.hg, .slice (some ⟨g3, 0, none⟩) s.D.length s.D.length, .slice (some ⟨g4, 0, none⟩) s.F.length s.F.length]) (by simp)
  have b0 := hq.cell (i := 0) rfl
  have b1 := hq.cell (i := 1) rfl
  have b2 := hq.cell (i := 2) rfl
  have b3 := hq.cell (i := 3) rfl
  clear hq
  go_wp2_with fail
  go_region_held3 (fun w' => w'.cell? ⟨w.heap.size, 0, none⟩ = some (.int .i64 s.wd) ∧ w'.cell? ⟨w.heap.size, 1, none⟩ = some (.int .i64 s.hg) ∧ w'.cell? ⟨w.heap.size, 2, none⟩ = some (.slice dao dn dc) ∧ w'.cell? ⟨w.heap.size, 3, none⟩ = some (.slice fao fn fc) ∧ w'.cell? ⟨gx, 0, none⟩ = some (.int .i64 s.wd) ∧ w'.cell? ⟨gx, 1, none⟩ = some (.int .i64 s.hg) ∧ w'.cell? ⟨gx, 2, none⟩ = some (.slice (some ⟨g3, 0, none⟩) s.D.length s.D.length) ∧ w'.cell? ⟨gx, 3, none⟩ = some (.slice (some ⟨g4, 0, none⟩) s.F.length s.F.length)) (go_keep) (first
    | (go_at_call 19; refine (unhide HTO _ (by first | exact (unhide HB).below | exact (unhide HB).below.drew)).mono ?_; rintro e w9 ⟨g7, g8, rfl, hg7, hg8, ho7, ho8, hb7⟩; have hb7' : Below w6.heap.size w6 w9 := (by first | exact hb7 | exact ⟨hb7.os, hb7.tape, hb7.output, hb7.size, hb7.block⟩); have z9 := hb7'.size; replace HB := hide ((unhide HB).step hb7'); replace HS := hide ((unhide HS).below hb7'); replace HG := hide ((unhide HG).below hb7'); have HE := hide (eqSea_any s.wd s.hg _ _ _ _ _ _ _ _ _ _ _ _ s.D s.F w9 (OwnV.intsIn ((unhide HB).at (g := g3) (vs := ints s.D) (by simp)) (Nat.le_refl _) (by unfold maxLen; omega)) (OwnV.recsIn ((unhide HB).at (g := g4) (vs := recCells 6 eClosed s.F) (by simp)) (Nat.le_refl _) (by unfold maxLen; omega)) (OwnV.intsIn (ho7) (Nat.le_refl _) (by unfold maxLen; omega)) (OwnV.recsIn (ho8) (Nat.le_refl _) (by unfold maxLen; omega))); unfold vSea at HE; have hq := (unhide HB).at (g := w.heap.size) (vs := [.int .i64 s.wd, .int .i64 s.hg, .slice dao dn dc, .slice fao fn fc]) (by simp); have ff0 := hq.cell (i := 0) rfl; have ff1 := hq.cell (i := 1) rfl; have ff2 := hq.cell (i := 2) rfl; have ff3 := hq.cell (i := 3) rfl; clear hq; have hq := (unhide HB).at (g := gx) (vs := [.int .i64 s.wd, .int .i64 s.hg, .slice (some ⟨g3, 0, none⟩) s.D.length s.D.length, .slice (some ⟨g4, 0, none⟩) s.F.length s.F.length]) (by simp); have gg0 := hq.cell (i := 0) rfl; have gg1 := hq.cell (i := 1) rfl; have gg2 := hq.cell (i := 2) rfl; have gg3 := hq.cell (i := 3) rfl; clear hq; clear ho7 ho8 hb7 hb7' hg7 hg8)
    | (go_at_call 21; refine (unhide HE).mono ?_; rintro e w10 ⟨rfl, hb8⟩; have z10 := hb8.size; replace HB := hide ((unhide HB).step hb8); replace HS := hide ((unhide HS).below hb8); replace HG := hide ((unhide HG).below hb8); have hq := (unhide HB).at (g := w.heap.size) (vs := [.int .i64 s.wd, .int .i64 s.hg, .slice dao dn dc, .slice fao fn fc]) (by simp); have k0 := hq.cell (i := 0) rfl; have k1 := hq.cell (i := 1) rfl; have k2 := hq.cell (i := 2) rfl; have k3 := hq.cell (i := 3) rfl; clear hq; have hq := (unhide HB).at (g := gx) (vs := [.int .i64 s.wd, .int .i64 s.hg, .slice (some ⟨g3, 0, none⟩) s.D.length s.D.length, .slice (some ⟨g4, 0, none⟩) s.F.length s.F.length]) (by simp); have m0 := hq.cell (i := 0) rfl; have m1 := hq.cell (i := 1) rfl; have m2 := hq.cell (i := 2) rfl; have m3 := hq.cell (i := 3) rfl; clear hq; clear hb8))
  clear HE a0 a1 a2 a3 b0 b1 b2 b3 ff0 ff1 ff2 ff3 gg0 gg1 gg2 gg3 k0 k1 k2 k3
  have HM := hide (markSea_any s.wd s.hg _ s.D.length _ s.F.length s.D s.F g3 g4 1 w10 (fun _ => ⟨rfl, (unhide HB).at (g := g3) (vs := ints s.D) (by simp)⟩) (fun _ => ⟨rfl, (unhide HB).at (g := g4) (vs := recCells 6 eClosed s.F) (by simp)⟩) (by omega) (by omega) hsD hsF (by omega) (by omega))
  unfold vSea at HM
  go_wp2_with fail
  refine (unhide HM).mono ?_
  rintro e w11 ⟨rfl, hk, -, -⟩
  clear HM m0 m1 m2 m3
  have z11 := hk.size
  replace HB := hide ((unhide HB).kept (L' := [(w.heap.size, [.int .i64 s.wd, .int .i64 s.hg, .slice dao dn dc, .slice fao fn fc])]) hk (fun b h => by omega) (by intro p hp; simp only [List.mem_singleton] at hp; subst hp; exact ⟨by simp, by simp only; omega⟩))
  replace HS := hide ((unhide HS).kept hk (fun b h1 h2 e => by omega))
  replace HG := hide ((unhide HG).kept hk (fun b h1 h2 e => by omega))
  clear hk
  generalize hkk : (1 : Int) + s.D.length + 6 * (s.F.length : Int) = kk
  have hk0 : 0 ≤ kk := by omega
  have hk1 : kk ≤ 1073741824 := by omega
  clear hkk
  go_wp2_with fail
  refine (eqIntS_o _ _ M _ (unhide HG).inn (unhide HS).inn).mono ?_
  rintro e w12 ⟨rfl, hb⟩
  replace HB := hide ((unhide HB).step hb); replace HS := hide ((unhide HS).below hb); replace HG := hide ((unhide HG).below hb)
  have zw12 := hb.size
  clear hb
  go_wp2_with fail
  refine (markInts_v _ _ _ _ _ M _ (unhide HG) hM).mono ?_
  rintro e w13 ⟨rfl, hk, ho⟩
  have z13 := hk.size
  replace HG := hide ho
  replace HB := hide ((unhide HB).kept (L' := [(w.heap.size, [.int .i64 s.wd, .int .i64 s.hg, .slice dao dn dc, .slice fao fn fc])]) hk (fun b h => by omega) (by intro p hp; simp only [List.mem_singleton] at hp; subst hp; exact ⟨by simp, by simp only; omega⟩))
  replace HS := hide ((unhide HS).kept hk (fun b h1 h2 e => by omega))
  clear hk ho
  have HH := hide fun W hW => heldInts_v (.slice ag ng cg) M W hW hM
  go_wp2_with fail
  refine (unhide HH _ (unhide HG).inn).mono ?_
  rintro e w14 ⟨rfl, hb⟩
  replace HB := hide ((unhide HB).step hb); replace HS := hide ((unhide HS).below hb); replace HG := hide ((unhide HG).below hb)
  clear hb
  have hq := (unhide HB).at (g := w.heap.size) (vs := [.int .i64 s.wd, .int .i64 s.hg, .slice dao dn dc, .slice fao fn fc]) (by simp)
  have a0 := hq.cell (i := 0) rfl
  have a1 := hq.cell (i := 1) rfl
  have a2 := hq.cell (i := 2) rfl
  have a3 := hq.cell (i := 3) rfl
  clear hq
  go_wp2_with fail
  refine (unhide HTO _ (unhide HB).below).mono ?_
  rintro e w15 ⟨g5, g6, rfl, hg5, hg6, ho1, ho2, hb⟩
  replace HB := hide ((unhide HB).step hb); replace HS := hide ((unhide HS).below hb); replace HG := hide ((unhide HG).below hb)
  have HIC := hide (unhide HI _ _ _ _ _ _ _ (OwnV.intsIn (ho1) (Nat.le_refl _) (by unfold maxLen; omega)) (OwnV.recsIn (ho2) (Nat.le_refl _) (by unfold maxLen; omega)))
  clear hb ho1 ho2 a0 a1 a2 a3 hg5 hg6
  go_wp2_with fail
  refine (unhide HIC).mono ?_
  rintro e w16 ⟨ah, nh, ch, rfl, ho, hb⟩
  replace HB := hide ((unhide HB).step hb); replace HS := hide ((unhide HS).below hb); replace HG := hide ((unhide HG).below hb)
  have HQ := hide ho.intsIn
  clear hb HIC ho
  go_wp2_with fail
  refine (eqIntS_o _ _ M _ (unhide HQ) (unhide HS).inn).mono ?_
  rintro e w17 ⟨rfl, hb⟩
  replace HB := hide ((unhide HB).step hb); replace HS := hide ((unhide HS).below hb); replace HG := hide ((unhide HG).below hb)
  have zw17 := hb.size
  clear hb
  go_wp2_with fail
  refine (unhide HH _ (unhide HG).inn).mono ?_
  rintro e w18 ⟨rfl, hb⟩
  replace HB := hide ((unhide HB).step hb); replace HS := hide ((unhide HS).below hb); replace HG := hide ((unhide HG).below hb)
  clear hb
  have HW := hide (unhide HB).below
  go_wp2
  go_ret
  all_goals exact ⟨rfl, unhide HW⟩

end Go.Proofs.Ytdpcacfgbjllhaa

/- How slices of flat structs of whole numbers and texts that came in are opened. Written by wip/mkopenm.py. -/
namespace Go.Proofs.Ytdpcacfgbjllhaa
open Go.ChangeShapes Go.WideShapes Go.ChangeAt Go.RowKit Go.Deep

theorem Try.ownM : ownKnob Try.prog.godebug = none := by kernel_rfl
theorem Try.laidOutM : laidOutB Try.prog = true := by kernel_rfl
theorem Try.cellIntM : Try.prog.cellsOf 3 = 1 := by kernel_rfl
theorem Try.cellStrM : Try.prog.cellsOf 9 = 1 := by kernel_rfl

theorem recClosed_open {H : Type} {enc : TypeId × Value → H} {W : World} {v : Value} {fuel : Nat} {x : DataW H × List MemPlace} {P : Program} {t e ti ts : TypeId} {f0 f1 f2 f3 f4 f5 : Field} (hi : P.underlying ti = some (.int .i64)) (_hs : P.underlying ts = some .string) (ci : P.cellsOf ti = 1) (_cst : P.cellsOf ts = 1)
    (ht : P.underlying t = some (.slice e)) (he : P.underlying e = some (.struct #[f0, f1, f2, f3, f4, f5])) (ce : P.cellsOf e = 6)
    (ho : [f0.offset, f1.offset, f2.offset, f3.offset, f4.offset, f5.offset] = [0, 1, 2, 3, 4, 5]) (hty : [f0.type, f1.type, f2.type, f3.type, f4.type, f5.type] = [ti, ti, ti, ti, ti, ti])
    (h : DataW.trod enc P W 0 (fun _ => true) true fuel t [v] = some x) : ∃ L, RClosed W v L ∧ ∀ i, i < L.length → True := by
  simp only [List.cons.injEq, and_true] at ho hty
  obtain ⟨o0, o1, o2, o3, o4, o5⟩ := ho
  obtain ⟨u0, u1, u2, u3, u4, u5⟩ := hty
  rcases open_slice ht h with ⟨hcs, _⟩ | ⟨a, len, cap, m, n, D, Pl, hcs, _, hl, hm, hmm, _, hx⟩
  · simp only [List.cons.injEq, and_true] at hcs
    subst hcs
    exact ⟨[], recsIn_nil, fun i hi => by simp at hi⟩
  simp only [List.cons.injEq, and_true] at hcs
  subst hcs
  simp only [if_true] at hmm
  subst hmm
  have each : ∀ i, i < len → ∃ q : ClosedT, (∀ j, j < 6 → W.cell? (a.add (i * 6 + j)) = some (eClosed q j)) ∧ True := by
    intro i hin
    obtain ⟨cs', h1, h2⟩ := hx i (by omega)
    rw [ce] at h1
    obtain ⟨_, hlen, hcell⟩ := World.cells?_some h1
    obtain ⟨xs, k, hk, hxy, _, hxl, hf⟩ := DataW.trod_struct he h2
    match xs, hxl, cs', hlen with
    | [y0, y1, y2, y3, y4, y5], _, [v0, v1, v2, v3, v4, v5], _ =>
      have g0 := hf 0 f0 rfl
      have g1 := hf 1 f1 rfl
      have g2 := hf 2 f2 rfl
      have g3 := hf 3 f3 rfl
      have g4 := hf 4 f4 rfl
      have g5 := hf 5 f5 rfl
      simp [o0, o1, o2, o3, o4, o5, u0, u1, u2, u3, u4, u5, ci] at g0 g1 g2 g3 g4 g5
      obtain ⟨z0, e0, _, _⟩ := DataW.trod_int hi g0
      obtain ⟨z1, e1, _, _⟩ := DataW.trod_int hi g1
      obtain ⟨z2, e2, _, _⟩ := DataW.trod_int hi g2
      obtain ⟨z3, e3, _, _⟩ := DataW.trod_int hi g3
      obtain ⟨z4, e4, _, _⟩ := DataW.trod_int hi g4
      obtain ⟨z5, e5, _, _⟩ := DataW.trod_int hi g5
      simp only [List.cons.injEq, and_true] at e0 e1 e2 e3 e4 e5
      have d0 := hcell 0 (by omega)
      rw [add_add] at d0
      subst e0
      have d1 := hcell 1 (by omega)
      rw [add_add] at d1
      subst e1
      have d2 := hcell 2 (by omega)
      rw [add_add] at d2
      subst e2
      have d3 := hcell 3 (by omega)
      rw [add_add] at d3
      subst e3
      have d4 := hcell 4 (by omega)
      rw [add_add] at d4
      subst e4
      have d5 := hcell 5 (by omega)
      rw [add_add] at d5
      subst e5
      refine ⟨(z0, z1, z2, z3, z4, z5), fun j hj => ?_, trivial⟩
      match j, hj with
      | 0, _ => simpa [eClosed] using d0
      | 1, _ => simpa [eClosed] using d1
      | 2, _ => simpa [eClosed] using d2
      | 3, _ => simpa [eClosed] using d3
      | 4, _ => simpa [eClosed] using d4
      | 5, _ => simpa [eClosed] using d5
  obtain ⟨q, hq⟩ := choose_lt each
  refine ⟨(List.range len).map q, ⟨some a, _, by simp, by simpa using hl, hm, fun i hi => ?_⟩, fun i _ => ?_⟩
  · simp only [List.length_map, List.length_range] at hi
    obtain ⟨b, o, sp⟩ := a
    have hs : sp = none := by simpa [Addr.add] using World.cell?_spot ((hq 0 (by omega)).1 0 (by omega))
    subst hs
    refine ⟨b, o, rfl, fun j hj => ?_⟩
    rw [← add_plain, (hq i hi).1 j hj]
    simp [List.getD, hi]
  · trivial

end Go.Proofs.Ytdpcacfgbjllhaa

/- How a sea that came in is opened: its numbers, its costs and what is closed. No statement about the program stands here. -/
namespace Go.Proofs.Ytdpcacfgbjllhaa
open Go.ChangeShapes Go.WideShapes Go.ChangeAt Go.RowKit Go.Deep

theorem intsS_open {H : Type} {enc : TypeId × Value → H} {W : World} {v : Value} {fuel : Nat} {x : DataW H × List MemPlace} {P : Program} {t ti : TypeId} (hi : P.underlying ti = some (.int .i64)) (ci : P.cellsOf ti = 1)
    (ht : P.underlying t = some (.slice ti)) (h : DataW.trod enc P W 0 (fun _ => true) true fuel t [v] = some x) : ∃ L, IntsIn W v L ∧ ∀ i, i < L.length → -9223372036854775808 ≤ L.getD i 0 ∧ L.getD i 0 ≤ 9223372036854775807 := by
  rcases open_ints ht hi ci h with ⟨hcs, _⟩ | ⟨a, len, cap, zs, hcs, _, hl, hm, hz, _, hcell, hwf⟩
  · simp only [List.cons.injEq, and_true] at hcs
    subst hcs
    exact ⟨[], ⟨none, 0, rfl, Nat.le_refl _, Nat.zero_le _, fun i hi => by simp at hi⟩, fun i hi => by simp at hi⟩
  · simp only [List.cons.injEq, and_true] at hcs
    subst hcs
    simp only [if_true] at hz
    have hl' : (zs.take len).length = len := by rw [List.length_take]; omega
    have hg : ∀ i, i < len → (zs.take len).getD i 0 = zs.getD i 0 := fun i hi => by simp [List.getD, hi]
    refine ⟨zs.take len, ⟨some a, cap, by rw [hl'], by rw [hl']; exact hl, hm, fun i hi => ?_⟩, fun i hi => ?_⟩
    · rw [hl'] at hi
      obtain ⟨b, o, sp⟩ := a
      have hs : sp = none := by simpa [Addr.add] using World.cell?_spot (hcell 0 (by omega))
      subst hs
      refine ⟨b, o, rfl, ?_⟩
      rw [← add_plain, hcell i (by omega), hg i hi]
    · rw [hl'] at hi
      rw [hg i hi]
      have hm' : zs.getD i 0 ∈ zs := by rw [getD_lt (show i < zs.length by omega)]; exact List.getElem_mem _
      have := hwf _ hm'
      clear hg hwf hcell hm'
      generalize zs.getD i 0 = y at *
      simp [Lit.wf, IntKind.min, IntKind.max, IntKind.bits, IntKind.signed] at this
      omega

/-- A struct of four fields, opened field by field. -/
theorem four_open {H : Type} {enc : TypeId × Value → H} {W : World} {base : Nat} {P : Program} {t : TypeId} {f0 f1 f2 f3 : Field} {v : Value} {d : DataW H} {p : List MemPlace} (hs : P.underlying t = some (.struct #[f0, f1, f2, f3]))
    (ho : [f0.offset, f1.offset, f2.offset, f3.offset] = [0, 1, 2, 3]) (hc : [P.cellsOf f0.type, P.cellsOf f1.type, P.cellsOf f2.type, P.cellsOf f3.type] = [1, 1, 1, 1]) (hC : P.cellsOf t = 4)
    (hv : Value.okWide P W .any base t v) (h : DataW.Trod enc P W 0 (fun _ => true) true t v d p) :
    ∃ (v0 v1 v2 v3 : Value) (y0 y1 y2 y3 : DataW H × List MemPlace) (n : Nat), v = .agg #[v0, v1, v2, v3] ∧
      DataW.trod enc P W 0 (fun _ => true) true n f0.type [v0] = some y0 ∧ DataW.trod enc P W 0 (fun _ => true) true n f1.type [v1] = some y1 ∧ DataW.trod enc P W 0 (fun _ => true) true n f2.type [v2] = some y2 ∧
      DataW.trod enc P W 0 (fun _ => true) true n f3.type [v3] = some y3 := by
  simp only [List.cons.injEq, and_true] at ho hc
  obtain ⟨o0, o1, o2, o3⟩ := ho
  obtain ⟨c0, c1, c2, c3⟩ := hc
  obtain ⟨⟨l⟩, rfl, hsz⟩ := okWide_struct hs hv
  rw [hC] at hsz
  obtain ⟨fuel, hf⟩ := h
  obtain ⟨xs, n, _, _, _, hlen, hx⟩ := DataW.trod_struct hs hf
  match l, hsz, xs, hlen with
  | [v0, v1, v2, v3], _, [y0, y1, y2, y3], _ =>
    have g0 := hx 0 f0 rfl
    have g1 := hx 1 f1 rfl
    have g2 := hx 2 f2 rfl
    have g3 := hx 3 f3 rfl
    simp [Value.cells, o0, o1, o2, o3, c0, c1, c2, c3] at g0 g1 g2 g3
    exact ⟨v0, v1, v2, v3, y0, y1, y2, y3, n, rfl, g0, g1, g2, g3⟩

set_option maxRecDepth 100000 in
theorem open_sea {H : Type} {enc : TypeId × Value → H} {W : World} {base : Nat} {v0 : Value} {d0 : DataW H} {p0 : List MemPlace} (hv : Value.okWide Try.prog W .any base 42 v0)
    (h0 : DataW.Trod enc Try.prog W 0 (fun _ => true) true 42 v0 d0 p0) :
    ∃ (s : Se) (dao : Option Addr) (dn dc : Nat) (fao : Option Addr) (fn fc : Nat), v0 = vSea s.wd s.hg (.slice dao dn dc) (.slice fao fn fc) ∧ IntsIn W (.slice dao dn dc) s.D ∧ RClosed W (.slice fao fn fc) s.F := by
  obtain ⟨c0, c1, c2, c3, y0, y1, y2, y3, n, rfl, t0, t1, t2, t3⟩ := four_open Try.underlying42 (by kernel_rfl) (by kernel_rfl) (by kernel_rfl) hv h0
  obtain ⟨wd, e0, _, _⟩ := DataW.trod_int Try.underlying3 t0
  obtain ⟨hg, e1, _, _⟩ := DataW.trod_int Try.underlying3 t1
  obtain ⟨D, hD, -⟩ := intsS_open Try.underlying3 Try.cellIntM Try.underlying24 t2
  obtain ⟨F, hF, -⟩ := recClosed_open Try.underlying3 Try.underlying9 Try.cellIntM Try.cellStrM Try.underlying40 Try.underlying99 (by kernel_rfl) rfl rfl t3
  simp only [List.cons.injEq, and_true] at e0 e1
  subst e0 e1
  obtain ⟨dao, dc, eD, _⟩ := id hD
  obtain ⟨fao, fc, eF, _⟩ := id hF
  subst eD eF
  exact ⟨⟨wd, hg, D, F⟩, dao, D.length, dc, fao, F.length, fc, rfl, hD, hF⟩

set_option maxRecDepth 100000 in
theorem open_intsS {H : Type} {enc : TypeId × Value → H} {W : World} {base : Nat} {v0 : Value} {d0 : DataW H} {p0 : List MemPlace} (hv : Value.okWide Try.prog W .any base 24 v0)
    (h0 : DataW.Trod enc Try.prog W 0 (fun _ => true) true 24 v0 d0 p0) :
    ∃ (M : List Int) (mao : Option Addr) (mc : Nat), v0 = .slice mao M.length mc ∧ IntsIn W (.slice mao M.length mc) M ∧ ∀ i, i < M.length → -9223372036854775808 ≤ M.getD i 0 ∧ M.getD i 0 ≤ 9223372036854775807 := by
  obtain ⟨a, len, cap, rfl⟩ := okWide_slice Try.underlying24 hv
  obtain ⟨fuel, hf⟩ := h0
  obtain ⟨M, hM, hb⟩ := intsS_open Try.underlying3 Try.cellIntM Try.underlying24 hf
  obtain ⟨mao, mc, e, _⟩ := id hM
  rw [e] at hM ⊢
  exact ⟨M, mao, mc, rfl, hM, hb⟩

end Go.Proofs.Ytdpcacfgbjllhaa
