/- A region whose order Go leaves open, by an invariant: what is held hangs on which operations have come up; each operation keeps it; all of them done, it is what is asked. -/
import Derived.Test.YtjpogaidcmndoaaWalkF
import Derived.Test.YtjpogaidcmndoaaExactKit
import Derived.Test.YtjpogaidcmndoaaKept
import Derived.Deep.RegionHeld3
namespace Go.Proofs.Ytjpogaidcmndoaa
open Go.RowKit

def updL (L : Nat → Bool) (i : Nat) : Nat → Bool := fun j => if j = i then true else L j
theorem updL_same (L : Nat → Bool) (i : Nat) : updL L i i = true := by simp [updL]
theorem updL_ne (L : Nat → Bool) {i j : Nat} (h : j ≠ i) : updL L i j = L j := by simp [updL, h]

def cntL (L : Nat → Bool) : Nat → Nat
  | 0 => 0
  | n + 1 => cntL L n + (if L n then 0 else 1)
theorem cntL_same (L : Nat → Bool) (i : Nat) : ∀ n, n ≤ i → cntL (updL L i) n = cntL L n
  | 0, _ => rfl
  | n + 1, h => by
    have := cntL_same L i n (by omega)
    simp only [cntL, this, updL_ne L (show n ≠ i by omega)]
theorem cntL_upd (L : Nat → Bool) (i : Nat) (hi : L i = false) : ∀ n, i < n → cntL (updL L i) n + 1 = cntL L n
  | 0, h => by omega
  | n + 1, h => by
    by_cases e : i = n
    · subst e
      simp only [cntL, cntL_same L i i (Nat.le_refl _), updL_same, hi]
      simp
    · have := cntL_upd L i hi n (by omega)
      simp only [cntL, updL_ne L (show n ≠ i by omega)]
      omega
theorem cntL_zero (L : Nat → Bool) : ∀ n, cntL L n = 0 → ∀ i, i < n → L i = true
  | 0, _, i, h => by omega
  | n + 1, h0, i, h => by
    simp only [cntL] at h0
    by_cases e : i = n
    · subst e
      cases hl : L i
      · rw [hl] at h0; simp at h0
      · rfl
    · exact cntL_zero L n (by omega) i (by omega)
theorem cntL_le (L : Nat → Bool) : ∀ n, cntL L n ≤ n
  | 0 => Nat.le_refl _
  | n + 1 => by have := cntL_le L n; simp only [cntL]; split <;> omega

/-- Each operation waits for earlier ones alone. -/
def upB : List Oper → Nat → Bool
  | [], _ => true
  | o :: r, i => o.after.all (fun e => !Region.binds .any e || decide (e.on < i)) && upB r (i + 1)
theorem upB_spec : ∀ (l : List Oper) (k : Nat), upB l k = true → ∀ i o, l[i]? = some o → ∀ e ∈ o.after, Region.binds .any e = true → e.on < k + i
  | [], _, _, i, o, h => by simp at h
  | x :: r, k, hb, i, o, h => by
    simp only [upB, Bool.and_eq_true] at hb
    cases i with
    | zero =>
      simp only [List.getElem?_cons_zero, Option.some.injEq] at h
      subst h
      intro e he hbi
      have h1 := Array.all_eq_true'.1 hb.1 e he
      simp only [hbi, Bool.not_true, Bool.false_or, decide_eq_true_eq] at h1
      omega
    | succ i =>
      intro e he hbi
      have := upB_spec r (k + 1) hb.2 i o (by simpa using h) e he hbi
      omega

/-- What is owed of each operation. -/
def StepsI (P : Program) (ops : Array Oper) (Q : Exit → Act → World → Prop) (I : (Nat → Bool) → Act → World → Prop) : List Oper → Nat → Prop
  | [], _ => True
  | o :: rest, i => (∀ (L : Nat → Bool) (a : Act) (w : World), L i = false → (∀ e ∈ o.after, Region.binds .any e = true → L e.on = true) → I L a w →
      ∀ K : Act → World → Prop, (∀ a' w', I (updL L i) a' w' → K a' w') → if Region.wanted o (yielded ops a.tmps) then o.wp P a w K Q else K (a.put o.dst undef) w) ∧ StepsI P ops Q I rest (i + 1)
theorem StepsI.get {P : Program} {ops : Array Oper} {Q : Exit → Act → World → Prop} {I : (Nat → Bool) → Act → World → Prop} : ∀ {l : List Oper} {k : Nat}, StepsI P ops Q I l k → ∀ i o, l[i]? = some o →
    ∀ (L : Nat → Bool) (a : Act) (w : World), L (k + i) = false → (∀ e ∈ o.after, Region.binds .any e = true → L e.on = true) → I L a w →
      ∀ K : Act → World → Prop, (∀ a' w', I (updL L (k + i)) a' w' → K a' w') → if Region.wanted o (yielded ops a.tmps) then o.wp P a w K Q else K (a.put o.dst undef) w
  | [], _, _, i, o, h => by simp at h
  | x :: r, k, hs, i, o, h => by
    cases i with
    | zero =>
      simp only [List.getElem?_cons_zero, Option.some.injEq] at h
      subst h
      exact hs.1
    | succ i =>
      have := StepsI.get hs.2 i o (by simpa using h)
      rw [show k + (i + 1) = k + 1 + i by omega]
      exact this

theorem wpAny_inv {P : Program} {Q : Exit → Act → World → Prop} {l : List Oper} {I : (Nat → Bool) → Act → World → Prop} (hB : upB l 0 = true) (hs : StepsI P l.toArray Q I l 0)
    (hq : ∀ L a w, (∀ i, i < l.length → L i = true) → I L a w → Q .normal a w) : ∀ (fuel : Nat) (listed : Array Bool) (a : Act) (w : World), listed.size = l.length → cntL (fun j => listed.getD j false) l.length ≤ fuel →
    I (fun j => listed.getD j false) a w → wpAny P .any l.toArray Q fuel listed a w := by
  have hall : ∀ listed : Array Bool, listed.size = l.length → Region.ready .any l.toArray listed = [] → ∀ i, i < l.length → listed.getD i false = true := by
    intro listed hsz hr i
    induction i using Nat.strongRecOn with
    | ind i ih =>
      intro hi
      cases hl : listed.getD i false
      · exfalso
        have hm : i ∈ Region.ready .any l.toArray listed := by
          refine mem_ready.2 ⟨?_, l[i], by simp [hi], ?_⟩
          · have : i < listed.size := by omega
            simp [this] at hl ⊢
            exact hl
          · intro e he hb
            exact ih e.on (by have := upB_spec l 0 hB i l[i] (by simp [hi]) e he hb; omega) (by have := upB_spec l 0 hB i l[i] (by simp [hi]) e he hb; omega)
        rw [hr] at hm
        cases hm
      · rfl
  intro fuel
  induction fuel with
  | zero =>
    intro listed a w hsz hc hI
    have h1 := cntL_zero _ _ (Nat.le_zero.1 hc)
    refine ⟨?_, hq _ _ _ h1 hI⟩
    cases hr : Region.ready .any l.toArray listed with
    | nil => rfl
    | cons i r =>
      have hm : i ∈ Region.ready .any l.toArray listed := by rw [hr]; simp
      obtain ⟨h2, o, ho, -⟩ := mem_ready.1 hm
      have hi : i < l.length := by
        have := Array.getElem?_eq_some_iff.1 ho
        simpa using this.1
      have h3 := h1 i hi
      have : i < listed.size := by omega
      simp [this] at h2 h3
      rw [h2] at h3
      cases h3
  | succ fuel ih =>
    intro listed a w hsz hc hI
    refine ⟨fun hr => hq _ _ _ (hall listed hsz hr) hI, fun i hm => ?_⟩
    obtain ⟨h2, o, ho, hd⟩ := mem_ready.1 hm
    have hi : i < l.length := by
      have := Array.getElem?_eq_some_iff.1 ho
      simpa using this.1
    have hlt : i < listed.size := by omega
    have hL : listed.getD i false = false := by simp [hlt] at h2 ⊢; exact h2
    have hup : (fun j => (listed.setIfInBounds i true).getD j false) = updL (fun j => listed.getD j false) i := by
      funext j
      by_cases e : j = i
      · subst e
        simp [updL, hlt]
      · rw [updL_ne _ e]
        exact getD_set_ne false (Ne.symm e)
    have hc' := cntL_upd (fun j => listed.getD j false) i hL l.length hi
    have hst := StepsI.get hs i o (by simpa using ho) (fun j => listed.getD j false) a w (by simpa using hL) hd hI (wpAny P .any l.toArray Q fuel (listed.setIfInBounds i true)) (fun a' w' hI' => ih _ a' w' (by simpa using hsz) (by rw [hup]; omega) (by rw [hup]; simpa using hI'))
    unfold wpOp
    simp only [ho]
    split
    · rename_i hw
      rw [if_pos hw] at hst
      exact .inl hst
    · rename_i hw
      rw [if_neg hw] at hst
      exact hst

/-- The law. -/
theorem wp_region_inv {P : Program} {id : Nat} {Q : Exit → Act → World → Prop} {a : Act} {w : World} {l : List Oper} (hm : P.follows .mixedOrders = true) (hB : upB l 0 = true) (I : (Nat → Bool) → Act → World → Prop)
    (h0 : I (fun _ => false) a w.drew) (hs : StepsI P l.toArray Q I l 0) (hq : ∀ L a w, (∀ i, i < l.length → L i = true) → I L a w → Q .normal a w) : (Code.region id l.toArray true).wp P Q a w := by
  refine wp_region_any hm (wpAny_inv hB hs hq _ _ _ _ (by simp) (by have := cntL_le (fun j => (Array.replicate l.toArray.size false).getD j false) l.length; simpa using this) ?_)
  have : (fun j => (Array.replicate l.toArray.size false).getD j false) = fun _ => false := by
    funext j
    by_cases h : j < l.length <;> simp [h]
  rw [this]
  exact h0

def updU (us : Nat → Value) : Option Tmp → Value → Nat → Value
  | none, _ => us
  | some d, v => fun j => if j = d then v else us j
theorem updU_same (us : Nat → Value) (d : Nat) (v : Value) : updU us (some d) v d = v := by simp [updU]
theorem updU_ne (us : Nat → Value) {d j : Nat} (v : Value) (h : j ≠ d) : updU us (some d) v j = us j := by simp [updU, h]

/-- The frame a with the values us in these slots. -/
def fillA (a : Act) : List Nat → (Nat → Value) → Act
  | [], _ => a
  | s :: r, us => fillA (a.put (some s) (us s)) r us
theorem fillA_put_out {d : Nat} {v : Value} {us : Nat → Value} : ∀ (r : List Nat) (a : Act), d ∉ r → (fillA a r us).put (some d) v = fillA (a.put (some d) v) r us
  | [], _, _ => rfl
  | s :: r, a, h => by
    simp only [fillA]
    rw [fillA_put_out r _ (fun hm => h (List.mem_cons_of_mem _ hm)), Act.put_comm a (us s) v (x := some s) (y := some d) (fun k hk => by cases hk; intro he; cases he; exact h (List.mem_cons_self ..))]
theorem fillA_congr {us us' : Nat → Value} : ∀ (r : List Nat) (a : Act), (∀ s ∈ r, us s = us' s) → fillA a r us = fillA a r us'
  | [], _, _ => rfl
  | s :: r, a, h => by
    simp only [fillA]
    rw [h s (List.mem_cons_self ..), fillA_congr r _ (fun k hk => h k (List.mem_cons_of_mem _ hk))]
theorem put_put (a : Act) (d : Nat) (v u : Value) : (a.put (some d) v).put (some d) u = a.put (some d) u := by
  simp [Act.put]
theorem fillA_put {d : Nat} {v : Value} {us : Nat → Value} : ∀ (r : List Nat) (a : Act), r.Nodup → d ∈ r → (fillA a r us).put (some d) v = fillA a r (updU us (some d) v)
  | [], _, _, h => by cases h
  | s :: r, a, hn, h => by
    rw [List.nodup_cons] at hn
    simp only [fillA]
    by_cases e : d = s
    · subst e
      rw [fillA_put_out r _ hn.1, put_put, updU_same]
      exact fillA_congr r _ (fun k hk => (updU_ne us v (fun (e : k = d) => hn.1 (by rw [← e]; exact hk))).symm)
    · have hd : d ∈ r := by
        rcases List.mem_cons.1 h with h | h
        · exact absurd h e
        · exact h
      rw [updU_ne us v (Ne.symm e)]
      exact fillA_put r _ hn.2 hd
theorem fillA_own : ∀ (r : List Nat) (a : Act), fillA a r (fun s => a.tmps.getD s undef) = a := by
  have own : ∀ (a : Act) (s : Nat), a.put (some s) (a.tmps.getD s undef) = a := by
    intro a s
    obtain ⟨t, d⟩ := a
    simp only [Act.put, Act.mk.injEq, and_true]
    apply Array.ext
    · simp
    · intro i h1 h2
      by_cases e : s = i
      · subst e
        simp [h2]
      · rw [Array.getElem_setIfInBounds]
        · simp [e]
        · exact h2
  intro r a
  suffices h : ∀ (r : List Nat) (us : Nat → Value), (∀ s, us s = a.tmps.getD s undef) → fillA a r us = a from h r _ (fun _ => rfl)
  intro r us hus
  induction r with
  | nil => rfl
  | cons s r ih =>
    simp only [fillA]
    rw [hus s, own]
    exact ih

def depsB (o : Oper) (k : Nat) : Bool := o.after.any (fun e => Region.binds .any e && e.on == k)
def dstIn (slots : List Nat) : List Oper → Bool
  | [] => true
  | o :: r => (match o.dst with | none => true | some d => slots.contains d) && dstIn slots r

/-- What is owed of each operation, the frame told by its slots. -/
def StepsR (P : Program) (ops : Array Oper) (Q : Exit → Act → World → Prop) (a : Act) (slots : List Nat) (R : (Nat → Bool) → (Nat → Value) → World → Prop) : List Oper → Nat → Prop
  | [], _ => True
  | o :: rest, i => (∀ (L : Nat → Bool) (us : Nat → Value) (w : World), L i = false → (∀ k, depsB o k = true → L k = true) → R L us w →
      ∀ K : Act → World → Prop, (∀ v w', R (updL L i) (updU us o.dst v) w' → K ((fillA a slots us).put o.dst v) w') → if Region.wanted o (yielded ops (fillA a slots us).tmps) then o.wp P (fillA a slots us) w K Q else K ((fillA a slots us).put o.dst undef) w) ∧ StepsR P ops Q a slots R rest (i + 1)

theorem put_none (a : Act) (v : Value) : a.put none v = a := rfl

theorem StepsR.stepsI {P : Program} {ops : Array Oper} {Q : Exit → Act → World → Prop} {a : Act} {slots : List Nat} {R : (Nat → Bool) → (Nat → Value) → World → Prop} (hn : slots.Nodup) : ∀ {l : List Oper} {k : Nat}, dstIn slots l = true → StepsR P ops Q a slots R l k →
    StepsI P ops Q (fun L b w => ∃ us, b = fillA a slots us ∧ R L us w) l k
  | [], _, _, _ => True.intro
  | o :: rest, k, hd, hs => by
    simp only [dstIn, Bool.and_eq_true] at hd
    refine ⟨?_, StepsR.stepsI hn hd.2 hs.2⟩
    rintro L b w hi hdep ⟨us, rfl, hR⟩ K hK
    refine hs.1 L us w hi (fun j hj => ?_) hR K (fun v w' hR' => hK _ _ ⟨updU us o.dst v, ?_, hR'⟩)
    · unfold depsB at hj
      rw [Array.any_eq_true'] at hj
      obtain ⟨e, he, hb⟩ := hj
      simp only [Bool.and_eq_true, beq_iff_eq] at hb
      exact hb.2 ▸ hdep e he hb.1
    · have h1 := hd.1
      cases ho : o.dst with
      | none => rfl
      | some d =>
        rw [ho] at h1
        exact fillA_put slots a hn (by simpa using h1)

/-- **The law**: R says what is held when the operations L have come up, the slots reading us. -/
theorem wp_region_slots {P : Program} {id : Nat} {Q : Exit → Act → World → Prop} {a : Act} {w : World} {l : List Oper} (slots : List Nat) (R : (Nat → Bool) → (Nat → Value) → World → Prop) (hm : P.follows .mixedOrders = true) (hB : upB l 0 = true)
    (hn : slots.Nodup) (hd : dstIn slots l = true) (h0 : ∀ us, R (fun _ => false) us w.drew) (hs : StepsR P l.toArray Q a slots R l 0)
    (hq : ∀ L us w, (∀ i, i < l.length → L i = true) → R L us w → Q .normal (fillA a slots us) w) : (Code.region id l.toArray true).wp P Q a w := by
  refine wp_region_inv hm hB (fun L b w => ∃ us, b = fillA a slots us ∧ R L us w) ⟨_, (fillA_own slots a).symm, h0 _⟩ (StepsR.stepsI hn hd hs) ?_
  rintro L b w hL ⟨us, rfl, hR⟩
  exact hq L us w hL hR

/-! Boxes of the call's own, each by its key: made or not yet, with its cells. -/
structure Bk (w0 w : World) (E : Nat → Option (Nat × List Value)) : Prop where
  below : Below w0.heap.size w0 w
  own : ∀ k g vs, E k = some (g, vs) → w0.heap.size ≤ g ∧ OwnV w g vs
  apart : ∀ k k' g vs g' vs', E k = some (g, vs) → E k' = some (g', vs') → k ≠ k' → g ≠ g'
def updE (E : Nat → Option (Nat × List Value)) (k : Nat) (x : Nat × List Value) : Nat → Option (Nat × List Value) := fun j => if j = k then some x else E j
theorem Bk.congr {w0 w : World} {E E' : Nat → Option (Nat × List Value)} (h : Bk w0 w E) (e : ∀ k, E' k = E k) : Bk w0 w E' := by
  have : E' = E := funext e
  rw [this]; exact h
theorem Bk.step {w0 w w' : World} {E : Nat → Option (Nat × List Value)} (h : Bk w0 w E) (hb : Below w.heap.size w w') : Bk w0 w' E :=
  ⟨Below.step h.below hb, fun k g vs e => ⟨(h.own k g vs e).1, (h.own k g vs e).2.step hb⟩, h.apart⟩
theorem Bk.drew {w0 w : World} {E : Nat → Option (Nat × List Value)} (h : Bk w0 w E) : Bk w0 w.drew E := ⟨h.below.drew, fun k g vs e => ⟨(h.own k g vs e).1, (h.own k g vs e).2.drew⟩, h.apart⟩
theorem Bk.made {w0 w : World} {E : Nat → Option (Nat × List Value)} (h : Bk w0 w E) (k : Nat) (cs : Array Value) (t : TypeId) : Bk w0 (w.alloc (.cells cs t)) (updE E k (w.heap.size, cs.toList)) := by
  have hs := h.step (Below.alloc1 w (.cells cs t))
  refine ⟨hs.below, fun j g vs e => ?_, fun j j' g vs g' vs' e e' hne => ?_⟩
  · unfold updE at e
    split at e
    · simp only [Option.some.injEq, Prod.mk.injEq] at e
      obtain ⟨rfl, rfl⟩ := e
      exact ⟨h.below.size, ownV_alloc _ _ _⟩
    · exact hs.own j g vs e
  · unfold updE at e e'
    split at e <;> split at e'
    · omega
    · simp only [Option.some.injEq, Prod.mk.injEq] at e
      obtain ⟨rfl, rfl⟩ := e
      have := (h.own j' g' vs' e').2.lt
      omega
    · simp only [Option.some.injEq, Prod.mk.injEq] at e'
      obtain ⟨rfl, rfl⟩ := e'
      have := (h.own j g vs e).2.lt
      omega
    · exact h.apart j j' g vs g' vs' e e' hne
theorem Bk.set {w0 w : World} {E : Nat → Option (Nat × List Value)} (h : Bk w0 w E) {k g : Nat} {vs : List Value} (hk : E k = some (g, vs)) (i : Nat) (u : Value) (hi : i < vs.length) : Bk w0 (w.setCell ⟨g, i, none⟩ u) (updE E k (g, vs.set i u)) := by
  have hg := h.own k g vs hk
  refine ⟨h.below.setCell hg.1 u, fun j g' vs' e => ?_, fun j j' g1 vs1 g2 vs2 e e' hne => ?_⟩
  · unfold updE at e
    split at e
    · simp only [Option.some.injEq, Prod.mk.injEq] at e
      obtain ⟨rfl, rfl⟩ := e
      exact ⟨hg.1, hg.2.set i u hi⟩
    · rename_i hjk
      exact ⟨(h.own j g' vs' e).1, (h.own j g' vs' e).2.other (a := ⟨g, i, none⟩) (h.apart j k g' vs' g vs e hk hjk) u⟩
  · unfold updE at e e'
    split at e <;> split at e'
    · omega
    · rename_i h1 h2
      simp only [Option.some.injEq, Prod.mk.injEq] at e
      obtain ⟨rfl, rfl⟩ := e
      exact h.apart k j' g vs g2 vs2 hk e' (by omega)
    · rename_i h1 h2
      simp only [Option.some.injEq, Prod.mk.injEq] at e'
      obtain ⟨rfl, rfl⟩ := e'
      exact h.apart j k g1 vs1 g vs e hk (by omega)
    · exact h.apart j j' g1 vs1 g2 vs2 e e' hne

theorem StepsR.nil {P : Program} {ops : Array Oper} {Q : Exit → Act → World → Prop} {a : Act} {slots : List Nat} {R : (Nat → Bool) → (Nat → Value) → World → Prop} {i : Nat} : StepsR P ops Q a slots R [] i := True.intro
theorem StepsR.cons {P : Program} {ops : Array Oper} {Q : Exit → Act → World → Prop} {a : Act} {slots : List Nat} {R : (Nat → Bool) → (Nat → Value) → World → Prop} {o : Oper} {rest : List Oper} {i : Nat} (j : Nat) (hj : i + 1 = j)
    (h : ∀ (L : Nat → Bool) (us : Nat → Value) (w : World), L i = false → (∀ k, depsB o k = true → L k = true) → R L us w →
      ∀ K : Act → World → Prop, (∀ v w', R (updL L i) (updU us o.dst v) w' → K ((fillA a slots us).put o.dst v) w') → if Region.wanted o (yielded ops (fillA a slots us).tmps) then o.wp P (fillA a slots us) w K Q else K ((fillA a slots us).put o.dst undef) w)
    (hr : StepsR P ops Q a slots R rest j) : StepsR P ops Q a slots R (o :: rest) i := ⟨h, by rw [hj]; exact hr⟩
theorem keepF {L : Nat → Bool} {us : Nat → Value} {i k d s : Nat} {v V : Value} (f : L k = true → us s = V) (hk : k ≠ i) (hs : s ≠ d) : updL L i k = true → updU us (some d) v s = V := by
  rw [updL_ne L hk, updU_ne us v hs]; exact f
theorem keepN {L : Nat → Bool} {us : Nat → Value} {i k s : Nat} {v V : Value} (f : L k = true → us s = V) (hk : k ≠ i) : updL L i k = true → updU us none v s = V := by
  rw [updL_ne L hk]; exact f
theorem newF {L : Nat → Bool} {us : Nat → Value} {i d : Nat} {v : Value} : updL L i i = true → updU us (some d) v d = v := fun _ => updU_same us d v
theorem keepL {L : Nat → Bool} {i k j : Nat} (f : L k = true → L j = true) (hk : k ≠ i) : updL L i k = true → updL L i j = true := by
  rw [updL_ne L hk]
  intro h
  by_cases e : j = i
  · subst e; exact updL_same L j
  · rw [updL_ne L e]; exact f h
theorem newL {L : Nat → Bool} {i j : Nat} (h : L j = true) (hj : j ≠ i) : updL L i i = true → updL L i j = true := fun _ => by rw [updL_ne L hj]; exact h
theorem notL {L : Nat → Bool} {k j : Nat} (f : L k = true → L j = true) (h : L j = false) : L k = false := by
  cases e : L k
  · rfl
  · rw [f e] at h; cases h
theorem bk_nil (w : World) : Bk w w (fun _ => none) := ⟨Below.refl _ _, fun k g vs e => (by cases e), fun k k' g vs g' vs' e => (by cases e)⟩
theorem Bk.ownV {w0 w : World} {E : Nat → Option (Nat × List Value)} (h : Bk w0 w E) {k g : Nat} {vs : List Value} (e : E k = some (g, vs)) : OwnV w g vs := (h.own k g vs e).2

/-- The block that a pointer names. -/
def gOf : Value → Nat
  | .pointer (some a) => a.block
  | _ => 0
theorem newG {L : Nat → Bool} {us : Nat → Value} {i d g : Nat} : updL L i i = true → updU us (some d) (.pointer (some ⟨g, 0, none⟩)) d = .pointer (some ⟨gOf (updU us (some d) (.pointer (some ⟨g, 0, none⟩)) d), 0, none⟩) := fun _ => by rw [updU_same]; rfl
theorem keepG {L : Nat → Bool} {us : Nat → Value} {i k d s : Nat} {v : Value} (f : L k = true → us s = .pointer (some ⟨gOf (us s), 0, none⟩)) (hk : k ≠ i) (hs : s ≠ d) : updL L i k = true → updU us (some d) v s = .pointer (some ⟨gOf (updU us (some d) v s), 0, none⟩) := by
  rw [updL_ne L hk, updU_ne us v hs]; exact f
theorem keepGN {L : Nat → Bool} {us : Nat → Value} {i k s : Nat} {v : Value} (f : L k = true → us s = .pointer (some ⟨gOf (us s), 0, none⟩)) (hk : k ≠ i) : updL L i k = true → updU us none v s = .pointer (some ⟨gOf (updU us none v s), 0, none⟩) := by
  rw [updL_ne L hk]; exact f

@[simp] theorem updL_at (L : Nat → Bool) (i j : Nat) : updL L i j = if j = i then true else L j := rfl
@[simp] theorem updU_at (us : Nat → Value) (d : Nat) (v : Value) (j : Nat) : updU us (some d) v j = if j = d then v else us j := rfl
@[simp] theorem updU_no (us : Nat → Value) (v : Value) (j : Nat) : updU us none v j = us j := rfl
@[simp] theorem updE_at (E : Nat → Option (Nat × List Value)) (k : Nat) (x : Nat × List Value) (j : Nat) : updE E k x j = if j = k then some x else E j := rfl
@[simp] theorem gOf_ptr (g o : Nat) (s : Option Nat) : gOf (.pointer (some ⟨g, o, s⟩)) = g := rfl

/-- Two boxes, one behind the other. -/
def E2 (n : Nat) (A C : List Value) : Nat → Option (Nat × List Value)
  | 0 => some (n, A)
  | 1 => some (n + 1, C)
  | _ => none
theorem bk_two (w : World) (A C : Array Value) (t u : TypeId) : Bk w ((w.alloc (.cells A t)).alloc (.cells C u)) (E2 w.heap.size A.toList C.toList) :=
  (((bk_nil w).made 0 A t).made 1 C u).congr (fun k => by rcases k with _ | _ | k <;> simp [E2])
/-- One box. -/
def E1 (n : Nat) (A : List Value) : Nat → Option (Nat × List Value)
  | 0 => some (n, A)
  | _ => none
theorem bk_one (w : World) (A : Array Value) (t : TypeId) : Bk w (w.alloc (.cells A t)) (E1 w.heap.size A.toList) :=
  ((bk_nil w).made 0 A t).congr (fun k => by rcases k with _ | k <;> simp [E1])

theorem same_below {P : Program} {f : FuncId} {args : Array Value} {w : World} {v : Value} (h : Calls P f args w fun e w' => e = .returned v ∧ w' = w) : Calls P f args w fun e w' => e = .returned v ∧ Below w.heap.size w w' :=
  h.mono fun e w' ⟨h1, h2⟩ => ⟨h1, by rw [h2]; exact Below.refl _ _⟩
theorem ifn {c : Bool} {p q : Prop} (h : c = false) (hq : q) : if c = true then p else q := by rw [h]; exact hq

/-! What slots read once their operations have come up: (operation, slot, value). -/
abbrev FL := List (Nat × Nat × Value)
def Facts (L : Nat → Bool) (us : Nat → Value) : FL → Prop
  | [] => True
  | x :: r => (L x.1 = true → us x.2.1 = x.2.2) ∧ Facts L us r
def getE (k : Nat) : FL → Option (Nat × Value)
  | [] => none
  | x :: r => bif x.1 == k then some (x.2.1, x.2.2) else getE k r
def notInB (i d : Nat) : FL → Bool
  | [] => true
  | x :: r => x.1 != i && (x.2.1 != d && notInB i d r)
def noOpB (i : Nat) : FL → Bool
  | [] => true
  | x :: r => x.1 != i && noOpB i r
def checkB (i d : Nat) : FL → Bool
  | [] => false
  | x :: r => bif x.1 == i then x.2.1 == d && notInB i d r else x.2.1 != d && checkB i d r
theorem facts_start (us : Nat → Value) : ∀ fs, Facts (fun _ => false) us fs
  | [] => True.intro
  | _ :: r => ⟨fun h => (by cases h), facts_start us r⟩
theorem Facts.get {L : Nat → Bool} {us : Nat → Value} {k s : Nat} {v : Value} : ∀ {fs : FL}, Facts L us fs → getE k fs = some (s, v) → L k = true → us s = v
  | [], _, h, _ => by cases h
  | x :: r, hf, h, hL => by
    unfold getE at h
    by_cases e : x.1 = k
    · rw [beq_iff_eq.2 e] at h
      simp only [cond_true, Option.some.injEq, Prod.mk.injEq] at h
      rw [← h.1, ← h.2]
      exact hf.1 (by rw [e]; exact hL)
    · rw [beq_eq_false_iff_ne.2 e] at h
      exact Facts.get hf.2 h hL
theorem Facts.stepO {L : Nat → Bool} {us : Nat → Value} {i d : Nat} {v : Value} : ∀ {fs : FL}, Facts L us fs → notInB i d fs = true → Facts (updL L i) (updU us (some d) v) fs
  | [], _, _ => True.intro
  | x :: r, hf, h => by
    simp only [notInB, Bool.and_eq_true, bne_iff_ne] at h
    exact ⟨keepF hf.1 h.1 h.2.1, Facts.stepO hf.2 h.2.2⟩
theorem Facts.stepN {L : Nat → Bool} {us : Nat → Value} {i : Nat} {v : Value} : ∀ {fs : FL}, Facts L us fs → noOpB i fs = true → Facts (updL L i) (updU us none v) fs
  | [], _, _ => True.intro
  | x :: r, hf, h => by
    simp only [noOpB, Bool.and_eq_true, bne_iff_ne] at h
    exact ⟨keepN hf.1 h.1, Facts.stepN hf.2 h.2⟩
theorem Facts.step {L : Nat → Bool} {us : Nat → Value} {i d : Nat} {v : Value} : ∀ {fs : FL}, Facts L us fs → checkB i d fs = true → getE i fs = some (d, v) → Facts (updL L i) (updU us (some d) v) fs
  | [], _, _, h => by cases h
  | x :: r, hf, hc, h => by
    unfold getE at h
    unfold checkB at hc
    by_cases e : x.1 = i
    · rw [beq_iff_eq.2 e] at h hc
      simp only [cond_true, Option.some.injEq, Prod.mk.injEq, Bool.and_eq_true, beq_iff_eq] at h hc
      refine ⟨fun _ => ?_, Facts.stepO hf.2 hc.2⟩
      rw [hc.1, updU_same, h.2]
    · rw [beq_eq_false_iff_ne.2 e] at h hc
      simp only [cond_false, Bool.and_eq_true, bne_iff_ne] at hc
      exact ⟨keepF hf.1 e hc.1, Facts.step hf.2 hc.2 h⟩

end Go.Proofs.Ytjpogaidcmndoaa
