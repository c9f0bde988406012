/- Laid together out of: HpM, HpA, Grow, HpB, HpC, HpD, HpE, HpF, HpG, HpH, HpI, DjM. -/
import Derived.Test.YtdpcacfgbjllhaaPa
import Derived.Test.YtdpcacfgbjllhaaPc
import Derived.Sort.Grow
import Derived.Deep.RegionHeld3
import Derived.Deep.AppendLies
import Derived.Deep.RegionLaw
import Derived.WideShapes
import Derived.Test.YtdpcacfgbjllhaaPb

/- Heaps as lists: what a step up and a step down keep; the first is the least. Mathematics; no statement about the program stands here. -/
namespace Go.Proofs.Ytdpcacfgbjllhaa

abbrev Rc := Int × Int
def rlt (a b : Rc) : Prop := a.1 < b.1 ∨ (a.1 = b.1 ∧ a.2 < b.2)
def swp (L : List Rc) (i j : Nat) : List Rc := (L.set i (L.getD j (0, 0))).set j (L.getD i (0, 0))
theorem swp_len (L : List Rc) (i j : Nat) : (swp L i j).length = L.length := by simp [swp]
theorem set_getD {L : List Rc} {k r : Nat} (hk : k < L.length) (v : Rc) : (L.set k v).getD r (0, 0) = if r = k then v else L.getD r (0, 0) := by
  rw [List.getD_eq_getElem?_getD, List.getElem?_set]
  by_cases e : k = r
  · rw [if_pos e, if_pos hk, if_pos e.symm]; rfl
  · rw [if_neg e, if_neg (fun h => e h.symm), List.getD_eq_getElem?_getD]
theorem swp_at {L : List Rc} {i j : Nat} (hi : i < L.length) (hj : j < L.length) (r : Nat) : (swp L i j).getD r (0, 0) = if r = j then L.getD i (0, 0) else if r = i then L.getD j (0, 0) else L.getD r (0, 0) := by
  unfold swp
  rw [set_getD (by rw [List.length_set]; exact hj), set_getD hi]
theorem swp_mem {L : List Rc} {i j : Nat} (hi : i < L.length) (hj : j < L.length) (x : Rc) : x ∈ swp L i j ↔ x ∈ L := by
  have key : ∀ (K : List Rc), K.length = L.length → (x ∈ K ↔ ∃ r, r < L.length ∧ K.getD r (0, 0) = x) := fun K hK => by
    rw [List.mem_iff_getElem]
    constructor
    · rintro ⟨r, hr, e⟩
      exact ⟨r, by omega, by rw [getD_lt hr]; exact e⟩
    · rintro ⟨r, hr, e⟩
      exact ⟨r, by omega, by rw [← getD_lt (d := (0, 0))]; exact e⟩
  rw [key _ (swp_len L i j), key L rfl]
  constructor
  · rintro ⟨r, hr, e⟩
    rw [swp_at hi hj] at e
    by_cases h1 : r = j
    · rw [if_pos h1] at e; exact ⟨i, hi, e⟩
    · rw [if_neg h1] at e
      by_cases h2 : r = i
      · rw [if_pos h2] at e; exact ⟨j, hj, e⟩
      · rw [if_neg h2] at e; exact ⟨r, hr, e⟩
  · rintro ⟨r, hr, e⟩
    by_cases h1 : r = i
    · exact ⟨j, hj, by rw [swp_at hi hj, if_pos rfl, ← h1]; exact e⟩
    · by_cases h2 : r = j
      · refine ⟨i, hi, ?_⟩
        rw [swp_at hi hj]
        by_cases h3 : i = j
        · rw [if_pos h3, h3, ← h2]; exact e
        · rw [if_neg h3, if_pos rfl, ← h2]; exact e
      · exact ⟨r, hr, by rw [swp_at hi hj, if_neg h2, if_neg h1]; exact e⟩

/-- The first n are a heap. -/
def Hp (L : List Rc) (n : Nat) : Prop := ∀ c, 0 < c → c < n → ¬ rlt (L.getD c (0, 0)) (L.getD ((c - 1) / 2) (0, 0))
theorem Hp.least {L : List Rc} {n : Nat} (h : Hp L n) : ∀ c, c < n → ¬ rlt (L.getD c (0, 0)) (L.getD 0 (0, 0)) := by
  intro c
  induction c using Nat.strongRecOn with
  | _ c ih =>
    intro hc
    by_cases h0 : c = 0
    · rw [h0]; unfold rlt; omega
    · have h1 := h c (by omega) hc
      have h2 := ih ((c - 1) / 2) (by omega) (by omega)
      unfold rlt at *
      omega
/-- A heap but for j, which may be less than what lies above it. -/
def HpUp (L : List Rc) (n j : Nat) : Prop := (∀ c, 0 < c → c < n → c ≠ j → ¬ rlt (L.getD c (0, 0)) (L.getD ((c - 1) / 2) (0, 0))) ∧ (∀ c, 0 < c → c < n → (c - 1) / 2 = j → 0 < j → ¬ rlt (L.getD c (0, 0)) (L.getD ((j - 1) / 2) (0, 0)))
theorem hpUp_push {L : List Rc} (h : Hp L L.length) (x : Rc) : HpUp (L ++ [x]) (L.length + 1) L.length := by
  have hg : ∀ c, c < L.length → (L ++ [x]).getD c (0, 0) = L.getD c (0, 0) := fun c hc => by
    rw [List.getD_eq_getElem?_getD, List.getElem?_append_left hc, List.getD_eq_getElem?_getD]
  refine ⟨fun c h0 hc hne => ?_, fun c h0 hc he hj => ?_⟩
  · rw [hg c (by omega), hg _ (by omega)]
    exact h c h0 (by omega)
  · omega
theorem HpUp.stop {L : List Rc} {n j : Nat} (h : HpUp L n j) (hs : j = 0 ∨ ¬ rlt (L.getD j (0, 0)) (L.getD ((j - 1) / 2) (0, 0))) : Hp L n := by
  intro c h0 hc
  by_cases e : c = j
  · rcases hs with hs | hs
    · omega
    · rw [e]; exact hs
  · exact h.1 c h0 hc e
theorem HpUp.next {L : List Rc} {n j : Nat} (h : HpUp L n j) (hn : n ≤ L.length) (hj : 0 < j) (hjn : j < n) (hl : rlt (L.getD j (0, 0)) (L.getD ((j - 1) / 2) (0, 0))) : HpUp (swp L ((j - 1) / 2) j) n ((j - 1) / 2) := by
  have hi : (j - 1) / 2 < L.length := by omega
  have hjl : j < L.length := by omega
  obtain ⟨i, ei⟩ : ∃ i, i = (j - 1) / 2 := ⟨_, rfl⟩
  rw [← ei] at hl hi ⊢
  refine ⟨fun c h0 hc hne => ?_, fun c h0 hc he hi0 => ?_⟩
  · rw [swp_at hi hjl, swp_at hi hjl]
    by_cases e1 : c = j
    · rw [if_pos e1, if_neg (by omega), if_pos (by omega)]
      unfold rlt at *; omega
    · rw [if_neg e1, if_neg hne]
      by_cases e2 : (c - 1) / 2 = j
      · rw [if_pos e2]
        have h2 := h.2 c h0 hc e2 hj
        rw [← ei] at h2
        exact h2
      · rw [if_neg e2]
        have h1 := h.1 c h0 hc e1
        by_cases e3 : (c - 1) / 2 = i
        · rw [if_pos e3]
          rw [e3] at h1
          unfold rlt at *; omega
        · rw [if_neg e3]; exact h1
  · rw [swp_at hi hjl, swp_at hi hjl]
    have hpi := h.1 i hi0 (by omega) (by omega)
    rw [if_neg (show ¬ (i - 1) / 2 = j by omega), if_neg (show ¬ (i - 1) / 2 = i by omega)]
    by_cases e1 : c = j
    · rw [if_pos e1]; exact hpi
    · rw [if_neg e1, if_neg (show ¬ c = i by omega)]
      have h1 := h.1 c h0 hc e1
      rw [he] at h1
      unfold rlt at *; omega
/-- A heap but for what lies below i. -/
def HpDn (L : List Rc) (n i : Nat) : Prop := (∀ c, 0 < c → c < n → (c - 1) / 2 ≠ i → ¬ rlt (L.getD c (0, 0)) (L.getD ((c - 1) / 2) (0, 0))) ∧ (∀ c, 0 < c → c < n → (c - 1) / 2 = i → 0 < i → ¬ rlt (L.getD c (0, 0)) (L.getD ((i - 1) / 2) (0, 0)))
theorem hpDn_pop {L : List Rc} {n : Nat} (h : Hp L (n + 1)) (hn : n + 1 ≤ L.length) : HpDn (swp L 0 n) n 0 := by
  refine ⟨fun c h0 hc hne => ?_, fun c h0 hc he hi => by omega⟩
  rw [swp_at (by omega) (by omega), swp_at (by omega) (by omega), if_neg (by omega), if_neg (by omega), if_neg (by omega), if_neg hne]
  exact h c h0 (by omega)
theorem HpDn.stop {L : List Rc} {n i : Nat} (h : HpDn L n i) (hs : ∀ c, 0 < c → c < n → (c - 1) / 2 = i → ¬ rlt (L.getD c (0, 0)) (L.getD i (0, 0))) : Hp L n := by
  intro c h0 hc
  by_cases e : (c - 1) / 2 = i
  · rw [e]; exact hs c h0 hc e
  · exact h.1 c h0 hc e
theorem HpDn.next {L : List Rc} {n i j : Nat} (h : HpDn L n i) (hn : n ≤ L.length) (hjn : j < n) (hj : (j - 1) / 2 = i) (hj0 : 0 < j) (hl : rlt (L.getD j (0, 0)) (L.getD i (0, 0))) (hm : ∀ c, 0 < c → c < n → (c - 1) / 2 = i → ¬ rlt (L.getD c (0, 0)) (L.getD j (0, 0))) : HpDn (swp L i j) n j := by
  have hi : i < L.length := by omega
  have hjl : j < L.length := by omega
  refine ⟨fun c h0 hc hne => ?_, fun c h0 hc he hi0 => ?_⟩
  · rw [swp_at hi hjl, swp_at hi hjl, if_neg hne]
    by_cases e1 : c = j
    · rw [if_pos e1, if_pos (by rw [e1]; exact hj)]
      unfold rlt at *; omega
    · rw [if_neg e1]
      by_cases e2 : (c - 1) / 2 = i
      · rw [if_pos e2, if_neg (by omega)]
        exact hm c h0 hc e2
      · rw [if_neg e2]
        have h1 := h.1 c h0 hc e2
        by_cases e3 : c = i
        · rw [if_pos e3]
          have h2 := h.2 j hj0 hjn hj (by omega)
          rw [e3]
          exact h2
        · rw [if_neg e3]; exact h1
  · rw [swp_at hi hjl, swp_at hi hjl, if_neg (by omega), if_neg (by omega), hj, if_neg (by omega), if_pos rfl]
    have h1 := h.1 c h0 hc (by omega)
    rw [he] at h1
    exact h1

end Go.Proofs.Ytdpcacfgbjllhaa

/- Contracts of cmp.Compare and cmp.Or at int and of the heap's Less. -/
namespace Go.Proofs.Ytdpcacfgbjllhaa
open Go.RowKit

structure Bd (W w' : World) : Prop where
  below : Below W.heap.size W w'
  drawn : W.drawn ≤ w'.drawn
theorem Bd.refl (W : World) : Bd W W := ⟨Below.refl _ _, Nat.le_refl _⟩
theorem Bd.trans {A B C : World} (h : Bd A B) (k : Bd B C) : Bd A C := ⟨Below.step h.below k.below, Nat.le_trans h.drawn k.drawn⟩
theorem Bd.alloc {A B : World} (h : Bd A B) (o : Obj) : Bd A (B.alloc o) := h.trans ⟨Below.alloc1 _ _, Nat.le_refl _⟩
theorem Bd.drewN {A B : World} (h : Bd A B) (n : Nat) : Bd A (B.drewN n) := h.trans ⟨below_drewN (Below.refl _ _) n, Nat.le_add_right _ _⟩
theorem Bd.grow {W w' : World} (h : Bd W w') : ∃ q os', w' = Go.Sort.grow (W.drewN q) os' := by
  obtain ⟨hb, hd⟩ := h
  refine ⟨w'.drawn - W.drawn, w'.heap.extract W.heap.size w'.heap.size, ?_⟩
  have e : w'.heap = W.heap ++ w'.heap.extract W.heap.size w'.heap.size := by
    apply Array.ext_getElem?
    intro i
    by_cases hi : i < W.heap.size
    · rw [Array.getElem?_append_left hi, hb.block i hi]
    · rw [Array.getElem?_append_right (by omega), Array.getElem?_extract]
      have hs := hb.size
      by_cases h2 : i < w'.heap.size
      · rw [if_pos (by omega)]; congr 1; omega
      · rw [if_neg (by omega)]
        exact Array.getElem?_eq_none (by omega)
  obtain ⟨heap', tape', drawn', os', out'⟩ := w'
  obtain ⟨h1, h2, h3, h4, h5⟩ := hb
  simp only at h1 h2 h3 h4 h5 hd e ⊢
  unfold Go.Sort.grow World.drewN
  simp only [World.mk.injEq]
  exact ⟨e, h2, by omega, h1, h3⟩

/-- A world in which nothing of W has turned and nothing is drawn anew. -/
structure Gd (W : World) where
  val : World
  ok : Bd W val
theorem wp_region_gd {P : Program} {id : Nat} {Q : Exit → Act → World → Prop} {a : Act} {w : World} {l : List Oper} (hm : P.follows .mixedOrders = true) (hB : Region.lexB .any l.toArray = true)
    (h : wpQuiet P l.toArray (fun w' => ∃ x : Gd w, w' = x.val) (fun a' => ∀ w', (∃ x : Gd w, w' = x.val) → Q .normal a' w') l a) : (Code.region id l.toArray true).wp P Q a w :=
  wp_region_quiet (C := fun w' => ∃ x : Gd w, w' = x.val) hm hB ⟨⟨w.drew, (Bd.refl w).drewN 1⟩, rfl⟩ (by simpa using h)
theorem calls_gd {P : Program} {f : FuncId} {args : Array Value} {w : World} {x : Gd w} {v : Value} (h : Calls P f args x.val fun e w' => e = .returned v ∧ Bd x.val w') :
    Calls P f args x.val fun e w'' => e = .returned v ∧ ∃ y : Gd w, w'' = y.val :=
  h.mono fun _ w' ⟨he, hb⟩ => ⟨he, ⟨w', x.ok.trans hb⟩, rfl⟩
theorem gd_some (w : World) : Nonempty (Gd w) := ⟨⟨w, Bd.refl _⟩⟩
theorem gd_cell {w : World} {a : Addr} {v : Value} (h : w.cell? a = some v) (x : Gd w) : x.val.cell? a = some v := (x.ok.below.cell (lt_of_cell h)).trans h

def cmpI (x y : Int) : Int := if x < y then -1 else if y < x then 1 else 0
set_option maxHeartbeats 800000 in
theorem cmpInt_any (x y : Int) (w : World) : Calls Try.prog 90 #[.int .i64 x, .int .i64 y] w fun e w' => e = .returned (.int .i64 (cmpI x y)) ∧ w = w' := by
  have HN : Hid (∀ z W, Calls Try.prog 91 #[.int .i64 z] W fun e w' => e = .returned (.bool false) ∧ W = w') := fun z W => by
    go_enter Try.func91, Try.ntmps91
    go_wp2
    go_ret
    exact ⟨ret_bool (by simp), rfl⟩
  by_cases h1 : x < y
  · rw [cmpI, if_pos h1]
    go_enter Try.func90, Try.ntmps90
    go_wp2_with (go_at_call 91; refine (unhide HN _ _).mono ?_; rintro e w' ⟨rfl, rfl⟩)
    go_ret
    exact ⟨rfl, rfl⟩
  · rw [cmpI, if_neg h1]
    by_cases h2 : y < x
    · rw [if_pos h2]
      go_enter Try.func90, Try.ntmps90
      go_wp2_with (go_at_call 91; refine (unhide HN _ _).mono ?_; rintro e w' ⟨rfl, rfl⟩)
      go_ret
      exact ⟨rfl, rfl⟩
    · rw [if_neg h2]
      go_enter Try.func90, Try.ntmps90
      go_wp2_with (go_at_call 91; refine (unhide HN _ _).mono ?_; rintro e w' ⟨rfl, rfl⟩)
      go_ret
      exact ⟨rfl, rfl⟩

def orI (a b : Int) : Int := if a = 0 then b else a
set_option maxRecDepth 10000 in
set_option maxHeartbeats 1600000 in
theorem orInt_any (a b : Int) (g : Nat) (w : World) (h : OwnV w g [.int .i64 a, .int .i64 b]) :
    Calls Try.prog 89 #[.slice (some ⟨g, 0, none⟩) 2 2] w fun e w' => e = .returned (.int .i64 (orI a b)) ∧ Bd w w' := by
  have c0 := h.cell (i := 0) rfl
  have c1 := h.cell (i := 1) rfl
  clear h
  unfold orI
  by_cases ha : a = 0
  · rw [if_pos ha]
    subst ha
    by_cases hb : b = 0
    · subst hb
      go_enter Try.func89, Try.ntmps89
      go_wp2
      refine wp_loop_rounds 3 ?_
      rw [rounds_succ]
      go_wp2
      rw [rounds_succ]
      go_wp2
      rw [rounds_succ]
      go_wp2
      go_ret
      exact ⟨rfl, Bd.refl _⟩
    · have d1 : (b != 0) = true := by simp; exact hb
      have d2 : (b == 0) = false := by simp; exact hb
      go_enter Try.func89, Try.ntmps89
      go_wp2
      refine wp_loop_rounds 2 ?_
      rw [rounds_succ]
      go_wp2
      rw [rounds_succ]
      go_wp2
      go_ret
      exact ⟨rfl, Bd.refl _⟩
  · rw [if_neg ha]
    have d1 : (a != 0) = true := by simp; exact ha
    have d2 : (a == 0) = false := by simp; exact ha
    go_enter Try.func89, Try.ntmps89
    go_wp2
    refine wp_loop_rounds 1 ?_
    rw [rounds_succ]
    go_wp2
    go_ret
    exact ⟨rfl, Bd.refl _⟩

instance (a b : Rc) : Decidable (rlt a b) := by unfold rlt; infer_instance
theorem cmp_rlt (a b c d : Int) : decide (orI (cmpI a b) (cmpI c d) < 0) = decide (rlt (a, c) (b, d)) := by
  rw [Bool.eq_iff_iff]
  simp only [decide_eq_true_eq]
  unfold orI cmpI rlt
  dsimp only
  by_cases h1 : a < b
  · simp [h1]
  · by_cases h2 : b < a
    · simp [h1, h2, show ¬ a = b by omega]
    · have e : a = b := by omega
      subst e
      by_cases h3 : c < d
      · simp [h3]
      · by_cases h4 : d < c
        · simp [h3, h4]
        · simp [h3, h4]
theorem bd_drew7 (W : World) : Bd W W.drew := (Bd.refl W).drewN 1

set_option maxRecDepth 10000 in
set_option maxHeartbeats 4000000 in
theorem less_any (v : Value) (L : List I2) (i j : Nat) (w : World) (h : R2 w v L) (hi : i < L.length) (hj : j < L.length) :
    Calls Try.prog 85 #[v, .int .i64 (i : Int), .int .i64 (j : Int)] w fun e w' => e = .returned (.bool (decide (rlt (L.getD i (0, 0)) (L.getD j (0, 0))))) ∧ Bd w w' := by
  obtain ⟨ao, cap, rfl, hl, hm, hc⟩ := h
  unfold maxLen at hm
  obtain ⟨b, o, x, y, rfl, a0, a1, EX⟩ := rec2At hc hi
  obtain ⟨b', o', x', y', e', b0, b1, EY⟩ := rec2At hc hj
  simp only [Option.some.injEq, Addr.mk.injEq, and_true] at e'
  obtain ⟨rfl, rfl⟩ := e'
  have eX : L.getD i (0, 0) = (x, y) := unhide EX
  have eY : L.getD j (0, 0) = (x', y') := unhide EY
  rw [eX, eY, ← cmp_rlt]
  have HC1 := hide fun V => cmpInt_any x x' V
  have HC2 := hide fun V => cmpInt_any y y' V
  obtain ⟨c1, ec1⟩ : ∃ n, n = cmpI x x' := ⟨_, rfl⟩
  obtain ⟨c2, ec2⟩ : ∃ n, n = cmpI y y' := ⟨_, rfl⟩
  rw [← ec1] at HC1 ⊢
  rw [← ec2] at HC2 ⊢
  have HO := hide fun V g h => orInt_any c1 c2 g V h
  obtain ⟨r, er⟩ : ∃ n, n = orI c1 c2 := ⟨_, rfl⟩
  rw [← er] at HO ⊢
  have hiI : (i : Int) < L.length := by omega
  have hjI : (j : Int) < L.length := by omega
  have HA0 := hide a0
  have HA1 := hide a1
  have HB0 := hide b0
  have HB1 := hide b1
  have HBD := hide (Bd.refl w)
  clear ec1 ec2 er hc EX EY eX eY
  go_enter Try.func85, Try.ntmps85
  go_wp2_with fail
  go_region_held3 (fun w' => w'.cell? ⟨b, o + i * 2, none⟩ = some (.int .i64 x) ∧ w'.cell? ⟨b, o + i * 2 + 1, none⟩ = some (.int .i64 y) ∧ w'.cell? ⟨b, o + j * 2, none⟩ = some (.int .i64 x') ∧ w'.cell? ⟨b, o + j * 2 + 1, none⟩ = some (.int .i64 y')) (go_keep) (first
    | (go_at_call 90; first | (refine (unhide HC1 _).mono ?_; rintro e w' ⟨rfl, h9⟩; have h8 := h9.symm; subst h8; clear h9 HC1) | (refine (unhide HC2 _).mono ?_; rintro e w' ⟨rfl, h9⟩; have h8 := h9.symm; subst h8; clear h9))
    | (go_at_call 89; (first | refine (unhide HO _ _ (OwnV.drew (ownV_alloc w #[.int .i64 c1, .int .i64 c2] 3))).mono ?_ | refine (unhide HO _ _ (ownV_alloc _ #[.int .i64 c1, .int .i64 c2] 3)).mono ?_); rintro e wz ⟨rfl, hb⟩; (first | (have HBD' := hide (((Bd.refl w).alloc _).trans ((bd_drew7 _).trans hb))) | (have HBD' := hide (((bd_drew7 w).alloc _).trans hb))); replace HBD := HBD'; clear HBD' hb; have f0 := ((unhide HBD).below.cell (lt_of_cell (unhide HA0))).trans (unhide HA0); have f1 := ((unhide HBD).below.cell (lt_of_cell (unhide HA1))).trans (unhide HA1); have f2 := ((unhide HBD).below.cell (lt_of_cell (unhide HB0))).trans (unhide HB0); have f3 := ((unhide HBD).below.cell (lt_of_cell (unhide HB1))).trans (unhide HB1)))
  go_wp2
  go_ret
  exact ⟨rfl, unhide HBD⟩

end Go.Proofs.Ytdpcacfgbjllhaa

/- A list of rows that grows by append, a block a row: what is owned, and how it goes on. No statement about the program stands here. -/
namespace Go.Proofs.Ytdpcacfgbjllhaa
open Go.RowKit

theorem ownsRow_kept {T : Nat → Prop} {w w' : World} {base n size : Nat} {e : TypeId} {v : Value} {xs : List Value} (h : w.ownsRow base e size v n xs) (hk : Kept T w w') (hT : ∀ g, base ≤ g → g < w.heap.size → v.ownBlock = some g → ¬ T g) : w'.ownsRow base e size v n xs := by
  obtain ⟨h1, h2⟩ := h
  refine ⟨h1, ?_⟩
  rcases h2 with h2 | ⟨g, cap, cur, hv, hg, hh, r⟩
  · exact Or.inl h2
  · obtain ⟨hlt, _⟩ := Array.getElem?_eq_some_iff.1 hh
    exact Or.inr ⟨g, cap, cur, hv, hg, (hk.block g hlt (hT g hg hlt (by rw [hv]; rfl))).trans hh, r⟩

theorem Kept.grown {T : Nat → Prop} {a w w' : World} {row : Option Nat} (h : Kept T a w) (hg : w.grownBy w' row) (hr : ∀ k, row = some k → T k) : Kept T a w' :=
  h.trans ⟨hg.os, hg.tape, hg.output, hg.size, fun k hk ht => hg.block k hk (fun e => ht (hr k e.symm))⟩

theorem Kept.alloc {T : Nat → Prop} {a w : World} (h : Kept T a w) (o : Obj) : Kept T a (w.alloc o) := h.trans (kept_of_below (Below.alloc1 w o))

/-- The slice value ov owns one cell a row of R; row r lies at the head of a block of its own. -/
def Grow (t : TypeId) (base : Nat) (w : World) (ov : Value) (R : List (List Int)) : Prop :=
  ∃ vals, w.ownsRow base t 1 ov R.length vals ∧ ∀ r, r < R.length → ∃ g cap, vals[r]? = some (.slice (some ⟨g, 0, none⟩) (R.getD r []).length cap) ∧ (R.getD r []).length ≤ cap ∧ cap ≤ maxLen ∧ OwnV w g (ints (R.getD r [])) ∧ base ≤ g ∧ ov.ownBlock ≠ some g

theorem Grow.start (t : TypeId) (base : Nat) (w : World) : Grow t base w (.slice none 0 0) [] := ⟨[], World.ownsRow_nil _ _ _ _, fun r hr => by simp at hr⟩

theorem Grow.kept {T : Nat → Prop} {t : TypeId} {base : Nat} {w w' : World} {ov : Value} {R : List (List Int)} (h : Grow t base w ov R) (hk : Kept T w w') (hT : ∀ g, base ≤ g → g < w.heap.size → ¬ T g) : Grow t base w' ov R := by
  obtain ⟨vals, ho, hr⟩ := h
  refine ⟨vals, ownsRow_kept ho hk (fun g hg hl _ => hT g hg hl), fun r hlt => ?_⟩
  obtain ⟨g, cap, h1, h2, h3, h4, h5, h6⟩ := hr r hlt
  exact ⟨g, cap, h1, h2, h3, h4.kept hk (hT g h5 h4.lt), h5, h6⟩

theorem Grow.below {t : TypeId} {base : Nat} {w w' : World} {ov : Value} {R : List (List Int)} (h : Grow t base w ov R) (hb : Below w.heap.size w w') : Grow t base w' ov R :=
  h.kept (T := fun _ => False) (kept_of_below hb) (fun _ _ _ h => h)

theorem Grow.mono {t : TypeId} {base base' : Nat} {w : World} {ov : Value} {R : List (List Int)} (h : Grow t base w ov R) (hb : base' ≤ base) : Grow t base' w ov R := by
  obtain ⟨vals, ho, hr⟩ := h
  refine ⟨vals, ⟨ho.1, ho.2.elim Or.inl (fun ⟨g, cap, cur, hv, hg, r⟩ => Or.inr ⟨g, cap, cur, hv, Nat.le_trans hb hg, r⟩)⟩, fun r hlt => ?_⟩
  obtain ⟨g, cap, h1, h2, h3, h4, h5, h6⟩ := hr r hlt
  exact ⟨g, cap, h1, h2, h3, h4, Nat.le_trans hb h5, h6⟩

/-- Where there is a row the list lies at the head of a block of its own. -/
theorem Grow.form {t : TypeId} {base : Nat} {w : World} {ov : Value} {R : List (List Int)} (h : Grow t base w ov R) (hn : 0 < R.length) : ∃ g cap, ov = .slice (some ⟨g, 0, none⟩) R.length cap ∧ base ≤ g ∧ R.length ≤ cap ∧ cap ≤ maxLen := by
  obtain ⟨vals, ⟨_, h2⟩, _⟩ := h
  rcases h2 with ⟨_, h0⟩ | ⟨g, cap, cur, hv, hg, hh, hc, hm, _⟩
  · omega
  · exact ⟨g, cap, hv, hg, hc, hm⟩

theorem getD_snoc {α : Type} (R : List α) (x d : α) (r : Nat) : (R ++ [x]).getD r d = if r < R.length then R.getD r d else if r = R.length then x else d := by
  by_cases h : r < R.length
  · rw [if_pos h]; simp [List.getD, List.getElem?_append_left h]
  · rw [if_neg h]
    by_cases e : r = R.length
    · subst e; simp [List.getD]
    · rw [if_neg e, List.getD, List.getElem?_eq_none (by simp; omega)]; rfl

/-- One row more, behind the law of append. -/
theorem Grow.push {t : TypeId} {base : Nat} {w w1 w2 : World} {ov : Value} {R : List (List Int)} {row : List Int} {g cap g' cap' H : Nat} {vals : List Value}
    (hr : ∀ r, r < R.length → ∃ g cap, vals[r]? = some (.slice (some ⟨g, 0, none⟩) (R.getD r []).length cap) ∧ (R.getD r []).length ≤ cap ∧ cap ≤ maxLen ∧ OwnV w g (ints (R.getD r [])) ∧ base ≤ g ∧ ov.ownBlock ≠ some g)
    (hvl : vals.length = R.length) (hb : Below w.heap.size w w1) (ho : OwnV w g (ints row)) (hg : base ≤ g) (hne : ov.ownBlock ≠ some g) (hc1 : row.length ≤ cap) (hc2 : cap ≤ maxLen) (hH : w.heap.size ≤ H)
    (hown : w2.ownsRow base t 1 (.slice (some ⟨g', 0, none⟩) (R.length + 1) cap') (R.length + 1) (vals ++ [.slice (some ⟨g, 0, none⟩) row.length cap])) (hgrow : w1.grownBy w2 ov.ownBlock) (hat : ov.ownBlock = some g' ∨ g' = H) :
    Grow t base w2 (.slice (some ⟨g', 0, none⟩) (R.length + 1) cap') (R ++ [row]) := by
  refine ⟨vals ++ [.slice (some ⟨g, 0, none⟩) row.length cap], by rw [List.length_append]; exact hown, fun r hlt => ?_⟩
  rw [List.length_append] at hlt
  simp only [List.length_cons, List.length_nil, Nat.zero_add] at hlt
  have far : ∀ x, x < w.heap.size → ov.ownBlock ≠ some x → (Value.slice (some ⟨g', 0, none⟩) (R.length + 1) cap').ownBlock ≠ some x ∧ w2.heap[x]? = w.heap[x]? := fun x hx hnx => by
    constructor
    · intro e
      have e' : g' = x := by simpa [Value.ownBlock] using e
      subst e'
      rcases hat with h | h
      · exact hnx h
      · omega
    · rw [hgrow.block x (Nat.lt_of_lt_of_le hx hb.size) (fun e => hnx e.symm), hb.block x hx]
  rw [getD_snoc]
  by_cases h : r < R.length
  · rw [if_pos h]
    obtain ⟨g1, cap1, h1, h2, h3, h4, h5, h6⟩ := hr r h
    obtain ⟨f1, f2⟩ := far g1 h4.lt h6
    exact ⟨g1, cap1, by rw [List.getElem?_append_left (by omega)]; exact h1, h2, h3, h4.of_block f2, h5, f1⟩
  · rw [if_neg h, if_pos (by omega)]
    obtain ⟨f1, f2⟩ := far g ho.lt hne
    exact ⟨g, cap, by rw [List.getElem?_append_right (by omega)]; simp [show r - vals.length = 0 by omega], hc1, hc2, ho.of_block f2, hg, f1⟩

theorem Grow.rowsIn {t : TypeId} {base : Nat} {w : World} {ov : Value} {R : List (List Int)} (h : Grow t base w ov R) : RowsIn w ov R := by
  obtain ⟨vals, ⟨h1, h2⟩, hr⟩ := h
  rcases h2 with ⟨rfl, h0⟩ | ⟨g, cap, cur, rfl, hg, hh, hc, hm, hs, ht⟩
  · have : R = [] := List.length_eq_zero_iff.1 h0
    subst this
    exact ⟨none, 0, rfl, Nat.le_refl _, Nat.zero_le _, fun r hr => by simp at hr⟩
  · refine ⟨_, cap, rfl, hc, hm, fun r hlt => ?_⟩
    obtain ⟨g1, cap1, e1, e2, e3, e4, _, _⟩ := hr r hlt
    refine ⟨g, 0, _, rfl, ?_, e4.intsIn e2 e3⟩
    rw [Nat.zero_add]
    have : cur[r]? = some (.slice (some ⟨g1, 0, none⟩) (R.getD r []).length cap1) := by
      rw [← ht] at e1
      rw [List.getElem?_take, if_pos (by omega)] at e1
      simpa using e1
    simp [World.cell?, hh, this]

end Go.Proofs.Ytdpcacfgbjllhaa

/- The heap's row; contract of the heap's Swap. -/
namespace Go.Proofs.Ytdpcacfgbjllhaa
open Go.RowKit

theorem ownsRow_setG {w : World} {base : Nat} {e : TypeId} {size g m cap : Nat} {xs : List Value} (h : w.ownsRow base e size (.slice (some ⟨g, 0, none⟩) m cap) m xs) (j : Nat) (u : Value) :
    (w.setCell ⟨g, j, none⟩ u).ownsRow base e size (.slice (some ⟨g, 0, none⟩) m cap) m (xs.set j u) := by
  obtain ⟨h1, h2⟩ := h
  refine ⟨by rw [List.length_set]; exact h1, ?_⟩
  rcases h2 with ⟨hv, _⟩ | ⟨g', cap', cur, hv, hg, hh, hc, hm, hs, ht⟩
  · cases hv
  · simp only [Value.slice.injEq, Option.some.injEq, Addr.mk.injEq, and_true, true_and] at hv
    obtain ⟨rfl, rfl⟩ := hv
    refine Or.inr ⟨g, cap, cur.setIfInBounds j u, rfl, hg, by simp [World.setCell, Array.getElem?_modify, hh], hc, hm, by simpa using hs, ?_⟩
    rw [← ht]
    simp [List.take_set]
theorem ownsRow_ownG {w : World} {B g n cap size : Nat} {e : TypeId} {xs : List Value} (h : w.ownsRow B e size (.slice (some ⟨g, 0, none⟩) n cap) n xs) : B ≤ g ∧ OwnV w g xs := by
  obtain ⟨h1, h2⟩ := h
  rcases h2 with ⟨hv, _⟩ | ⟨g', cap', cur, hv, hg, hh, hc, hm, hs, ht⟩
  · cases hv
  · simp only [Value.slice.injEq, Option.some.injEq, Addr.mk.injEq, and_true, true_and] at hv
    obtain ⟨rfl, rfl⟩ := hv
    refine ⟨hg, cur, e, hh, fun i hi => ?_⟩
    rw [← ht, List.getElem?_take, if_pos (by omega)]
    simp
theorem swp_comm (L : List Rc) {i j : Nat} (hi : i < L.length) (hj : j < L.length) : swp L j i = swp L i j := by
  apply List.ext_getElem?
  intro r
  by_cases hr : r < L.length
  · have h1 := swp_at hi hj r
    have h2 := swp_at hj hi r
    have e : (swp L j i).getD r (0, 0) = (swp L i j).getD r (0, 0) := by
      rw [h1, h2]
      by_cases e1 : r = i <;> by_cases e2 : r = j <;> simp [e1, e2]
      · subst e1; rw [e2]; simp
      · intro h; exact absurd h (by omega)
      · intro h; exact absurd h (by omega)
    have l1 : r < (swp L j i).length := by rw [swp_len]; exact hr
    have l2 : r < (swp L i j).length := by rw [swp_len]; exact hr
    rw [getD_lt l1, getD_lt l2] at e
    rw [List.getElem?_eq_getElem l1, List.getElem?_eq_getElem l2, e]
  · rw [List.getElem?_eq_none (by rw [swp_len]; omega), List.getElem?_eq_none (by rw [swp_len]; omega)]
theorem rcAt (M : List I2) {q : Nat} (hq : q < M.length * 2) : (recCells 2 e2 M)[q]? = some (e2 (M.getD (q / 2) default) (q % 2)) := by
  simp [recCells, hq]
theorem rcSet (M : List I2) {j : Nat} (hj : j < M.length) (x y : Int) : ((recCells 2 e2 M).set (j * 2) (.int .i64 x)).set (j * 2 + 1) (.int .i64 y) = recCells 2 e2 (M.set j (x, y)) := by
  apply List.ext_getElem?
  intro q
  by_cases hq : q < M.length * 2
  · rw [rcAt _ (by rw [List.length_set]; exact hq), List.getElem?_set, List.getElem?_set, rcAt _ hq, List.length_set, recCells_length]
    have hd : (M.set j (x, y)).getD (q / 2) default = if q / 2 = j then (x, y) else M.getD (q / 2) default := by
      rw [List.getD_eq_getElem?_getD, List.getElem?_set]
      by_cases e : j = q / 2
      · rw [if_pos e, if_pos hj, if_pos e.symm]; rfl
      · rw [if_neg e, if_neg (fun h => e h.symm), List.getD_eq_getElem?_getD]
    rw [hd]
    by_cases e1 : j * 2 + 1 = q
    · rw [if_pos e1, if_pos (by omega), if_pos (by omega), show q % 2 = 1 by omega]; rfl
    · rw [if_neg e1]
      by_cases e2' : j * 2 = q
      · rw [if_pos e2', if_pos (by omega), if_pos (by omega), show q % 2 = 0 by omega]; rfl
      · rw [if_neg e2', if_neg (by omega)]
  · rw [List.getElem?_eq_none (by rw [List.length_set, List.length_set, recCells_length]; omega), List.getElem?_eq_none (by rw [recCells_length, List.length_set]; omega)]
theorem rcSwp (L : List I2) {i j : Nat} (hi : i < L.length) (hj : j < L.length) {x y x' y' : Int} (ei : L.getD i (0, 0) = (x, y)) (ej : L.getD j (0, 0) = (x', y')) :
    (((recCells 2 e2 L).set (i * 2) (.int .i64 x')).set (i * 2 + 1) (.int .i64 y') |>.set (j * 2) (.int .i64 x)).set (j * 2 + 1) (.int .i64 y) = recCells 2 e2 (swp L i j) := by
  rw [rcSet L hi, rcSet _ (by rw [List.length_set]; exact hj)]
  unfold swp
  rw [ei, ej]

set_option maxRecDepth 10000 in
set_option maxHeartbeats 4000000 in
theorem swap_any (B g n cap : Nat) (L : List I2) (i j : Nat) (w : World) (h : w.ownsRow B 64 2 (.slice (some ⟨g, 0, none⟩) n cap) n (recCells 2 e2 L)) (hn : n = L.length) (hi : i < L.length) (hj : j < L.length) :
    Calls Try.prog 88 #[.slice (some ⟨g, 0, none⟩) n cap, .int .i64 (i : Int), .int .i64 (j : Int)] w fun e w' => e = .returned (.tuple #[]) ∧ w'.ownsRow B 64 2 (.slice (some ⟨g, 0, none⟩) n cap) n (recCells 2 e2 (swp L i j)) ∧ Kept (fun b => b = g) w w' := by
  subst hn
  obtain ⟨x, y, eX⟩ : ∃ x y, L.getD i (0, 0) = (x, y) := ⟨_, _, rfl⟩
  obtain ⟨x', y', eY⟩ : ∃ x y, L.getD j (0, 0) = (x, y) := ⟨_, _, rfl⟩
  obtain ⟨-, hO⟩ := ownsRow_ownG h
  have a0 := hO.cell (i := i * 2) (v := .int .i64 x) (by rw [rcAt L (by omega), show i * 2 / 2 = i by omega, show i * 2 % 2 = 0 by omega]; rw [show (L.getD i default) = (x, y) from eX]; rfl)
  have a1 := hO.cell (i := i * 2 + 1) (v := .int .i64 y) (by rw [rcAt L (by omega), show (i * 2 + 1) / 2 = i by omega, show (i * 2 + 1) % 2 = 1 by omega]; rw [show (L.getD i default) = (x, y) from eX]; rfl)
  have b0 := hO.cell (i := j * 2) (v := .int .i64 x') (by rw [rcAt L (by omega), show j * 2 / 2 = j by omega, show j * 2 % 2 = 0 by omega]; rw [show (L.getD j default) = (x', y') from eY]; rfl)
  have b1 := hO.cell (i := j * 2 + 1) (v := .int .i64 y') (by rw [rcAt L (by omega), show (j * 2 + 1) / 2 = j by omega, show (j * 2 + 1) % 2 = 1 by omega]; rw [show (L.getD j default) = (x', y') from eY]; rfl)
  have fz := hO.frozen
  have hiI : (i : Int) < L.length := by omega
  have hjI : (j : Int) < L.length := by omega
  have H1 := hide (rcSwp L hi hj eX eY)
  have H2 := hide (rcSwp L hj hi eY eX)
  have HS := hide (swp_comm L hi hj)
  have HR := hide h
  have hm : L.length ≤ cap ∧ cap ≤ maxLen := by
    obtain ⟨_, h2⟩ := h
    rcases h2 with ⟨hv, _⟩ | ⟨g', cap', cur, hv, hg, hh, hc, hm, hs, ht⟩
    · cases hv
    · simp only [Value.slice.injEq, Option.some.injEq, Addr.mk.injEq, and_true, true_and] at hv
      obtain ⟨rfl, rfl⟩ := hv
      exact ⟨hc, hm⟩
  obtain ⟨hm1, hm2⟩ := hm
  unfold maxLen at hm2
  clear h hO eX eY
  have HE := hide (show (((((w.setCell ⟨g, i * 2, none⟩ (.int .i64 x')).setCell ⟨g, i * 2 + 1, none⟩ (.int .i64 y')).setCell ⟨g, j * 2, none⟩ (.int .i64 x)).setCell ⟨g, j * 2 + 1, none⟩ (.int .i64 y))).ownsRow B 64 2 (.slice (some ⟨g, 0, none⟩) L.length cap) L.length (recCells 2 e2 (swp L i j)) from (unhide H1) ▸ ownsRow_setG (ownsRow_setG (ownsRow_setG (ownsRow_setG (unhide HR) _ _) _ _) _ _) _ _)
  have HK := hide ((((Kept.refl (fun b => b = g) w).setCell (p := ⟨g, i * 2, none⟩) rfl (.int .i64 x')).setCell (p := ⟨g, i * 2 + 1, none⟩) rfl (.int .i64 y')).setCell (p := ⟨g, j * 2, none⟩) rfl (.int .i64 x) |>.setCell (p := ⟨g, j * 2 + 1, none⟩) rfl (.int .i64 y))
  by_cases hij : i = j
  · subst hij
    simp only [a0, a1, Option.some.injEq, Value.int.injEq, true_and] at b0 b1
    subst b0 b1
    go_enter Try.func88, Try.ntmps88
    go_wp2_with fail
    go_region_with (fail)
    all_goals
      go_wp2
      go_end0
      first | exact ⟨rfl, unhide HE, unhide HK⟩ | exact ⟨rfl, ownsRow_below (unhide HE) (Below.refl _ _).drew, (unhide HK).trans (kept_of_below (Below.refl _ _).drew)⟩
  have n1 : ¬ i * 2 = j * 2 := by omega
  have n2 : ¬ i * 2 = j * 2 + 1 := by omega
  have n3 : ¬ i * 2 + 1 = j * 2 := by omega
  have n4 : ¬ i * 2 + 1 = j * 2 + 1 := by omega
  have n5 : ¬ j * 2 = i * 2 := by omega
  have n6 : ¬ j * 2 = i * 2 + 1 := by omega
  have n7 : ¬ j * 2 + 1 = i * 2 := by omega
  have n8 : ¬ j * 2 + 1 = i * 2 + 1 := by omega
  have n9 : ¬ j = i := by omega
  go_enter Try.func88, Try.ntmps88
  go_wp2_with fail
  go_region_with (fail)
  all_goals
    go_wp2
    go_end0
    first | exact ⟨rfl, unhide HE, unhide HK⟩ | exact ⟨rfl, ownsRow_below (unhide HE) (Below.refl _ _).drew, (unhide HK).trans (kept_of_below (Below.refl _ _).drew)⟩

end Go.Proofs.Ytdpcacfgbjllhaa

/- The frontier: its box and its row; where the heap's interface finds the frontier's methods. No statement about the program stands here. -/
namespace Go.Proofs.Ytdpcacfgbjllhaa
open Go.RowKit

/-- The frontier at block gf: its slice at block g, the reaches L. -/
structure Fr (W : World) (B gf g n cap : Nat) (L : List Rc) : Prop where
  box : OwnV W gf [.slice (some ⟨g, 0, none⟩) n cap]
  row : W.ownsRow B 64 2 (.slice (some ⟨g, 0, none⟩) n cap) n (recCells 2 e2 L)
  len : n = L.length
  ne : gf ≠ g
theorem Fr.recs {W : World} {B gf g n cap : Nat} {L : List Rc} (h : Fr W B gf g n cap L) : R2 W (.slice (some ⟨g, 0, none⟩) n cap) L := by
  obtain ⟨-, hO⟩ := ownsRow_ownG h.row
  have hl := h.len
  obtain ⟨_, h2⟩ := h.row
  rcases h2 with ⟨hv, _⟩ | ⟨g', cap', cur, hv, hg, hh, hc, hm, hs, ht⟩
  · cases hv
  · simp only [Value.slice.injEq, Option.some.injEq, Addr.mk.injEq, and_true, true_and] at hv
    obtain ⟨rfl, rfl⟩ := hv
    subst hl
    exact OwnV.recsIn hO hc hm
theorem Fr.bd {W W' : World} {B gf g n cap : Nat} {L : List Rc} (h : Fr W B gf g n cap L) (hb : Bd W W') : Fr W' B gf g n cap L := ⟨h.box.step hb.below, ownsRow_below h.row hb.below, h.len, h.ne⟩

set_option maxRecDepth 100000 in
theorem Try.methLess : (Try.prog.info? 57).map (fun i => (i.methods.find? (·.name == "Less")).map (fun m => (m.path, m.func))) = some (some (#[⟨61, 0, true⟩], some (85, false))) := by kernel_rfl
theorem methLess {W : World} {gf : Nat} {v : Value} (hc : W.cell? ⟨gf, 0, none⟩ = some v) : (method 229 57 (.pointer (some ⟨gf, 0, none⟩)) "Less").run Try.prog W = .ok (85, v) W := by
  obtain ⟨i, hi, h2⟩ := Option.map_eq_some_iff.1 Try.methLess
  obtain ⟨m, hm, h3⟩ := Option.map_eq_some_iff.1 h2
  simp only [Prod.mk.injEq] at h3
  obtain ⟨hp, hf⟩ := h3
  unfold method
  simp [typeInfo, hi, hm, hp, hf, follow, go_sem, Place.get, receiverAt, hc]
set_option maxRecDepth 100000 in
theorem Try.methSwap : (Try.prog.info? 57).map (fun i => (i.methods.find? (·.name == "Swap")).map (fun m => (m.path, m.func))) = some (some (#[⟨61, 0, true⟩], some (88, false))) := by kernel_rfl
theorem methSwap {W : World} {gf : Nat} {v : Value} (hc : W.cell? ⟨gf, 0, none⟩ = some v) : (method 229 57 (.pointer (some ⟨gf, 0, none⟩)) "Swap").run Try.prog W = .ok (88, v) W := by
  obtain ⟨i, hi, h2⟩ := Option.map_eq_some_iff.1 Try.methSwap
  obtain ⟨m, hm, h3⟩ := Option.map_eq_some_iff.1 h2
  simp only [Prod.mk.injEq] at h3
  obtain ⟨hp, hf⟩ := h3
  unfold method
  simp [typeInfo, hi, hm, hp, hf, follow, go_sem, Place.get, receiverAt, hc]
set_option maxRecDepth 100000 in
theorem Try.methLen : (Try.prog.info? 57).map (fun i => (i.methods.find? (·.name == "Len")).map (fun m => (m.path, m.func))) = some (some (#[⟨61, 0, true⟩], some (33, false))) := by kernel_rfl
theorem methLen {W : World} {gf : Nat} {v : Value} (hc : W.cell? ⟨gf, 0, none⟩ = some v) : (method 229 57 (.pointer (some ⟨gf, 0, none⟩)) "Len").run Try.prog W = .ok (33, v) W := by
  obtain ⟨i, hi, h2⟩ := Option.map_eq_some_iff.1 Try.methLen
  obtain ⟨m, hm, h3⟩ := Option.map_eq_some_iff.1 h2
  simp only [Prod.mk.injEq] at h3
  obtain ⟨hp, hf⟩ := h3
  unfold method
  simp [typeInfo, hi, hm, hp, hf, follow, go_sem, Place.get, receiverAt, hc]
set_option maxRecDepth 100000 in
theorem Try.methPush : (Try.prog.info? 57).map (fun i => (i.methods.find? (·.name == "Push")).map (fun m => (m.path, m.func))) = some (some (#[], some (87, true))) := by kernel_rfl
theorem methPush (W : World) (gf : Nat) : (method 229 57 (.pointer (some ⟨gf, 0, none⟩)) "Push").run Try.prog W = .ok (87, .pointer (some ⟨gf, 0, none⟩)) W := by
  obtain ⟨i, hi, h2⟩ := Option.map_eq_some_iff.1 Try.methPush
  obtain ⟨m, hm, h3⟩ := Option.map_eq_some_iff.1 h2
  simp only [Prod.mk.injEq] at h3
  obtain ⟨hp, hf⟩ := h3
  unfold method
  simp [typeInfo, hi, hm, hp, hf, follow, go_sem, Place.get, receiverAt]
set_option maxRecDepth 100000 in
theorem Try.methPop : (Try.prog.info? 57).map (fun i => (i.methods.find? (·.name == "Pop")).map (fun m => (m.path, m.func))) = some (some (#[], some (86, true))) := by kernel_rfl
theorem methPop (W : World) (gf : Nat) : (method 229 57 (.pointer (some ⟨gf, 0, none⟩)) "Pop").run Try.prog W = .ok (86, .pointer (some ⟨gf, 0, none⟩)) W := by
  obtain ⟨i, hi, h2⟩ := Option.map_eq_some_iff.1 Try.methPop
  obtain ⟨m, hm, h3⟩ := Option.map_eq_some_iff.1 h2
  simp only [Prod.mk.injEq] at h3
  obtain ⟨hp, hf⟩ := h3
  unfold method
  simp [typeInfo, hi, hm, hp, hf, follow, go_sem, Place.get, receiverAt]

end Go.Proofs.Ytdpcacfgbjllhaa

/- Contract of container/heap's up over the program's frontier. -/
namespace Go.Proofs.Ytdpcacfgbjllhaa
open Go.RowKit

theorem Fr.lt {W : World} {B gf g n cap : Nat} {L : List Rc} (h : Fr W B gf g n cap L) : gf < W.heap.size ∧ g < W.heap.size := ⟨h.box.lt, (ownsRow_ownG h.row).2.lt⟩
theorem Fr.swap {W W' : World} {B gf g n cap : Nat} {L : List Rc} (h : Fr W B gf g n cap L) {i j : Nat} (hr : W'.ownsRow B 64 2 (.slice (some ⟨g, 0, none⟩) n cap) n (recCells 2 e2 (swp L i j))) (hk : Kept (fun b => b = g) W W') : Fr W' B gf g n cap (swp L i j) :=
  ⟨h.box.kept hk h.ne, hr, by rw [swp_len]; exact h.len, h.ne⟩
/-- What the heap's steps leave: the same reaches, otherwise ordered; no other memory has turned. -/
structure HpAns (w w' : World) (B gf g n cap : Nat) (L L' : List Rc) : Prop where
  fr : Fr w' B gf g n cap L'
  mem : ∀ x, x ∈ L' ↔ x ∈ L
  kept : Kept (fun b => b = g) w w'

set_option maxRecDepth 10000 in
set_option maxHeartbeats 8000000 in
theorem up_any (B gf g n cap : Nat) (L0 : List Rc) (j0 : Nat) (w : World) (h : Fr w B gf g n cap L0) (hj : j0 < n) (hu : HpUp L0 n j0) (hn : n ≤ 1000000) :
    Calls Try.prog 58 #[.iface 57 (.pointer (some ⟨gf, 0, none⟩)), .int .i64 (j0 : Int)] w fun e w' => e = .returned (.tuple #[]) ∧ ∃ L', Hp L' n ∧ HpAns w w' B gf g n cap L0 L' := by
  have HF0 := hide (⟨h, fun x => Iff.rfl, Kept.refl _ _⟩ : HpAns w w B gf g n cap L0 L0)
  have HU0 := hide hu
  clear h hu
  go_enter Try.func58, Try.ntmps58
  go_wp2_with fail
  go_loopg [1] j0 (fun g' jv wr => ∃ (j : Nat) (L : List Rc), j < n ∧ g' = j ∧ jv = .int .i64 (j : Int) ∧ Hid (HpAns w wr B gf g n cap L0 L) ∧ Hid (HpUp L n j))
  case atStart => exact ⟨j0, L0, hj, rfl, rfl, HF0, HU0⟩
  case round =>
    clear HF0 HU0 hj
    obtain ⟨j, L, hj, eg, rfl, HF, HU⟩ := hrel
    have HG := hide eg
    clear eg
    have c0 := (unhide HF).fr.box.cell (i := 0) rfl
    have hlen := (unhide HF).fr.len
    have HL := hide hlen
    have hl1 : n ≤ L.length := by omega
    clear hlen
    by_cases h0 : j = 0
    · have HP := hide ((unhide HU).stop (Or.inl h0))
      subst h0
      go_wp2_with fail
      go_end0
      exact ⟨rfl, L, unhide HP, unhide HF⟩
    obtain ⟨i, ei⟩ : ∃ i, i = (j - 1) / 2 := ⟨_, rfl⟩
    have q1 : IntKind.i64.wrap ((j : Int) - 1) = (j : Int) - 1 := by rw [IntKind.wrap_i64]; omega
    have q2 : Int.tdiv ((j : Int) - 1) 2 = (i : Int) := by rw [Int.tdiv_eq_ediv_of_nonneg (by omega)]; omega
    have q3 : IntKind.i64.wrap (i : Int) = (i : Int) := by rw [IntKind.wrap_i64]; omega
    have d1 : ((i : Int) == (j : Int)) = false := by simp; omega
    have d1' : (i == j) = false := by simp; omega
    have hM := methLess c0
    have HLS := hide (less_any _ L j i wr (unhide HF).fr.recs (by omega) (by omega))
    have hin : i < n := by omega
    have HEI := hide ei
    have HJ0 := hide h0
    clear ei h0
    go_wp2_with fail
    refine (unhide HLS).mono ?_
    rintro e w1 ⟨rfl, hb⟩
    have HF1 : Hid (HpAns w w1 B gf g n cap L0 L) := ⟨(unhide HF).fr.bd hb, (unhide HF).mem, (unhide HF).kept.trans (kept_of_below hb.below)⟩
    clear hb HLS hM c0 HF
    by_cases hlt : rlt (L.getD j (0, 0)) (L.getD i (0, 0))
    case neg =>
      have HP := hide ((unhide HU).stop (Or.inr (by rw [← unhide HEI]; exact hlt)))
      rw [decide_eq_false hlt]
      go_wp2_with fail
      go_end0
      exact ⟨rfl, L, unhide HP, unhide HF1⟩
    rw [decide_eq_true hlt]
    have c1 := (unhide HF1).fr.box.cell (i := 0) rfl
    have hM2 := methSwap c1
    have HSW := hide (swap_any B g n cap L i j w1 (unhide HF1).fr.row (unhide HL) (by omega) (by omega))
    have HUN : Hid (HpUp (swp L i j) n i) := by have h := (unhide HU).next hl1 (by have := unhide HJ0; omega) hj (by rw [← unhide HEI]; exact hlt); rw [← unhide HEI] at h; exact h
    have HMEM := hide (fun x => swp_mem (L := L) (i := i) (j := j) (by omega) (by omega) x)
    go_wp2_with fail
    refine (unhide HSW).mono ?_
    rintro e w2 ⟨rfl, hr, hk⟩
    have HF2 : Hid (HpAns w w2 B gf g n cap L0 (swp L i j)) := ⟨(unhide HF1).fr.swap hr hk, fun x => (unhide HMEM x).trans ((unhide HF1).mem x), (unhide HF1).kept.trans hk⟩
    have hij : i < j := by have := unhide HEI; have := unhide HJ0; omega
    clear hr hk HSW hM2 c1
    go_wp2_with fail
    go_roundg i
    case measure => have := unhide HG; omega
    case rel => exact ⟨i, swp L i j, hin, rfl, rfl, HF2, HUN⟩

end Go.Proofs.Ytdpcacfgbjllhaa

/- Contract of container/heap's down over the program's frontier. Written by wip/mkdown.py. -/
namespace Go.Proofs.Ytdpcacfgbjllhaa
open Go.RowKit

/-- What the steps down leave. -/
structure DnAns (w w' : World) (B gf g n cap m : Nat) (L L' : List Rc) : Prop where
  fr : Fr w' B gf g n cap L'
  mem : ∀ x, x ∈ L' ↔ x ∈ L
  kept : Kept (fun b => b = g) w w'
  out : ∀ k, m ≤ k → L'.getD k (0, 0) = L.getD k (0, 0)
theorem DnAns.bd {w W W' : World} {B gf g n cap m : Nat} {L L' : List Rc} (h : DnAns w W B gf g n cap m L L') (hb : Bd W W') : DnAns w W' B gf g n cap m L L' := ⟨h.fr.bd hb, h.mem, h.kept.trans (kept_of_below hb.below), h.out⟩

set_option maxRecDepth 10000 in
set_option maxHeartbeats 16000000 in
theorem down_any (B gf g n cap m : Nat) (L0 : List Rc) (w : World) (h : Fr w B gf g n cap L0) (hm : m ≤ n) (hd : HpDn L0 m 0) (hn : n ≤ 1000000) :
    Calls Try.prog 68 #[.iface 57 (.pointer (some ⟨gf, 0, none⟩)), .int .i64 0, .int .i64 (m : Int)] w fun e w' => ∃ b : Bool, e = .returned (.bool b) ∧ ∃ L', Hp L' m ∧ DnAns w w' B gf g n cap m L0 L' := by
  have HF0 := hide (⟨h, fun x => Iff.rfl, Kept.refl _ _, fun _ _ => rfl⟩ : DnAns w w B gf g n cap m L0 L0)
  have HU0 := hide hd
  clear h hd
  go_enter Try.func68, Try.ntmps68
  go_wp2_with fail
  go_loopg [7] m (fun g' iv wr => ∃ (i : Nat) (L : List Rc), i ≤ m ∧ g' = m - i ∧ iv = .int .i64 (i : Int) ∧ Hid (DnAns w wr B gf g n cap m L0 L) ∧ Hid (HpDn L m i))
  case atStart => exact ⟨0, L0, Nat.zero_le _, rfl, rfl, HF0, HU0⟩
  case round =>
    clear HF0 HU0
    obtain ⟨i, L, hi, eg, rfl, HF, HU⟩ := hrel
    have HG := hide eg
    clear eg
    have hlen := (unhide HF).fr.len
    have HL := hide hlen
    have hl2 : m ≤ L.length := by omega
    clear hlen
    have q1 : IntKind.i64.wrap (2 * (i : Int)) = 2 * (i : Int) := by rw [IntKind.wrap_i64]; omega
    obtain ⟨j1, ej⟩ : ∃ j, j = 2 * i + 1 := ⟨_, rfl⟩
    have q2 : IntKind.i64.wrap (2 * (i : Int) + 1) = (j1 : Int) := by rw [IntKind.wrap_i64]; omega
    obtain ⟨j2, ej2⟩ : ∃ j, j = j1 + 1 := ⟨_, rfl⟩
    have q3 : IntKind.i64.wrap ((j1 : Int) + 1) = (j2 : Int) := by rw [IntKind.wrap_i64]; omega
    have EJ := hide ej
    have EJ2 := hide ej2
    have hj1a : j1 ≤ 2 * i + 1 := by omega
    have hj1b : 2 * i + 1 ≤ j1 := by omega
    have hj2a : j2 ≤ j1 + 1 := by omega
    have hj2b : j1 + 1 ≤ j2 := by omega
    clear ej ej2
    by_cases c1 : m ≤ j1
    · have HP := hide ((unhide HU).stop (fun c h0 hc he => by omega))
      have d1 : (m : Int) ≤ (j1 : Int) := by omega
      go_wp2_with fail
      go_ret
      exact ⟨_, rfl, L, unhide HP, unhide HF⟩
    have d1 : ¬ (m : Int) ≤ (j1 : Int) := by omega
    have d1' : decide ((m : Int) ≤ (j1 : Int)) = false := decide_eq_false d1
    have d1n : decide (m ≤ j1) = false := decide_eq_false c1
    have d2 : ¬ (j1 : Int) < 0 := by omega
    by_cases c2 : j2 < m
    · have d3 : (j2 : Int) < (m : Int) := by omega
      have d3' : decide ((j2 : Int) < (m : Int)) = true := decide_eq_true d3
      have d3n : decide (j2 < m) = true := decide_eq_true c2
      have c0 := (unhide HF).fr.box.cell (i := 0) rfl
      have hM := methLess c0
      have HLS := hide (less_any _ L j2 j1 wr (unhide HF).fr.recs (by omega) (by omega))
      go_wp2_with fail
      refine (unhide HLS).mono ?_
      rintro e w1 ⟨rfl, hb⟩
      replace HF : Hid (DnAns w w1 B gf g n cap m L0 L) := (unhide HF).bd hb
      clear hb HLS hM c0
      by_cases c3 : rlt (L.getD j2 (0, 0)) (L.getD j1 (0, 0))
      · rw [decide_eq_true c3]
        have HMIN : Hid (∀ c, 0 < c → c < m → (c - 1) / 2 = i → ¬ rlt (L.getD c (0, 0)) (L.getD j2 (0, 0))) := fun c h0 hc he => by
          have e : c = j1 ∨ c = j2 := by omega
          rcases e with rfl | rfl
          · unfold rlt at *; omega
          · unfold rlt; omega
        have hjm : j2 < m := by omega
        have hjI : ((j2 - 1) / 2) = i := by omega
        have cL := (unhide HF).fr.box.cell (i := 0) rfl
        have hML := methLess cL
        have HL2 := hide (less_any _ L j2 i w1 (unhide HF).fr.recs (by omega) (by omega))
        go_wp2_with fail
        refine (unhide HL2).mono ?_
        rintro e w2 ⟨rfl, hb⟩
        replace HF : Hid (DnAns w w2 B gf g n cap m L0 L) := (unhide HF).bd hb
        clear hb HL2 hML cL
        by_cases hlt : rlt (L.getD j2 (0, 0)) (L.getD i (0, 0))
        case neg =>
          have HP := hide ((unhide HU).stop (fun c h0 hc he => by
            have h1 := unhide HMIN c h0 hc he
            unfold rlt at *
            omega))
          rw [decide_eq_false hlt]
          go_wp2_with fail
          go_ret
          exact ⟨_, rfl, L, unhide HP, unhide HF⟩
        rw [decide_eq_true hlt]
        have c1 := (unhide HF).fr.box.cell (i := 0) rfl
        have hM2 := methSwap c1
        have HSW := hide (swap_any B g n cap L i j2 w2 (unhide HF).fr.row (unhide HL) (by omega) (by omega))
        have HUN := hide ((unhide HU).next hl2 hjm hjI (by omega) hlt (unhide HMIN))
        have HMEM := hide (fun x => swp_mem (L := L) (i := i) (j := j2) (by omega) (by omega) x)
        have HOUT : Hid (∀ k, m ≤ k → (swp L i j2).getD k (0, 0) = L.getD k (0, 0)) := fun k hk => by rw [swp_at (by omega) (by omega), if_neg (by omega), if_neg (by omega)]
        go_wp2_with fail
        refine (unhide HSW).mono ?_
        rintro e w3 ⟨rfl, hr, hk⟩
        have HF2 : Hid (DnAns w w3 B gf g n cap m L0 (swp L i j2)) := ⟨(unhide HF).fr.swap hr hk, fun x => (unhide HMEM x).trans ((unhide HF).mem x), (unhide HF).kept.trans hk, fun k hkm => (unhide HOUT k hkm).trans ((unhide HF).out k hkm)⟩
        clear hr hk HSW hM2 c1
        go_wp2_with fail
        go_roundg (m - j2)
        case measure => have := unhide HG; omega
        case rel => exact ⟨j2, swp L i j2, Nat.le_of_lt hjm, rfl, rfl, HF2, HUN⟩
      · rw [decide_eq_false c3]
        have HMIN : Hid (∀ c, 0 < c → c < m → (c - 1) / 2 = i → ¬ rlt (L.getD c (0, 0)) (L.getD j1 (0, 0))) := fun c h0 hc he => by
          have e : c = j1 ∨ c = j2 := by omega
          rcases e with rfl | rfl
          · unfold rlt; omega
          · exact c3
        have hjm : j1 < m := by omega
        have hjI : ((j1 - 1) / 2) = i := by omega
        have cL := (unhide HF).fr.box.cell (i := 0) rfl
        have hML := methLess cL
        have HL2 := hide (less_any _ L j1 i w1 (unhide HF).fr.recs (by omega) (by omega))
        go_wp2_with fail
        refine (unhide HL2).mono ?_
        rintro e w2 ⟨rfl, hb⟩
        replace HF : Hid (DnAns w w2 B gf g n cap m L0 L) := (unhide HF).bd hb
        clear hb HL2 hML cL
        by_cases hlt : rlt (L.getD j1 (0, 0)) (L.getD i (0, 0))
        case neg =>
          have HP := hide ((unhide HU).stop (fun c h0 hc he => by
            have h1 := unhide HMIN c h0 hc he
            unfold rlt at *
            omega))
          rw [decide_eq_false hlt]
          go_wp2_with fail
          go_ret
          exact ⟨_, rfl, L, unhide HP, unhide HF⟩
        rw [decide_eq_true hlt]
        have c1 := (unhide HF).fr.box.cell (i := 0) rfl
        have hM2 := methSwap c1
        have HSW := hide (swap_any B g n cap L i j1 w2 (unhide HF).fr.row (unhide HL) (by omega) (by omega))
        have HUN := hide ((unhide HU).next hl2 hjm hjI (by omega) hlt (unhide HMIN))
        have HMEM := hide (fun x => swp_mem (L := L) (i := i) (j := j1) (by omega) (by omega) x)
        have HOUT : Hid (∀ k, m ≤ k → (swp L i j1).getD k (0, 0) = L.getD k (0, 0)) := fun k hk => by rw [swp_at (by omega) (by omega), if_neg (by omega), if_neg (by omega)]
        go_wp2_with fail
        refine (unhide HSW).mono ?_
        rintro e w3 ⟨rfl, hr, hk⟩
        have HF2 : Hid (DnAns w w3 B gf g n cap m L0 (swp L i j1)) := ⟨(unhide HF).fr.swap hr hk, fun x => (unhide HMEM x).trans ((unhide HF).mem x), (unhide HF).kept.trans hk, fun k hkm => (unhide HOUT k hkm).trans ((unhide HF).out k hkm)⟩
        clear hr hk HSW hM2 c1
        go_wp2_with fail
        go_roundg (m - j1)
        case measure => have := unhide HG; omega
        case rel => exact ⟨j1, swp L i j1, Nat.le_of_lt hjm, rfl, rfl, HF2, HUN⟩
    · have d3 : ¬ (j2 : Int) < (m : Int) := by omega
      have d3' : decide ((j2 : Int) < (m : Int)) = false := decide_eq_false d3
      have d3n : decide (j2 < m) = false := decide_eq_false c2
      have HMIN : Hid (∀ c, 0 < c → c < m → (c - 1) / 2 = i → ¬ rlt (L.getD c (0, 0)) (L.getD j1 (0, 0))) := fun c h0 hc he => by
        have e : c = j1 := by omega
        rw [e]
        unfold rlt; omega
      have hjm : j1 < m := by omega
      have hjI : ((j1 - 1) / 2) = i := by omega
      have cL := (unhide HF).fr.box.cell (i := 0) rfl
      have hML := methLess cL
      have HL2 := hide (less_any _ L j1 i wr (unhide HF).fr.recs (by omega) (by omega))
      go_wp2_with fail
      refine (unhide HL2).mono ?_
      rintro e w2 ⟨rfl, hb⟩
      replace HF : Hid (DnAns w w2 B gf g n cap m L0 L) := (unhide HF).bd hb
      clear hb HL2 hML cL
      by_cases hlt : rlt (L.getD j1 (0, 0)) (L.getD i (0, 0))
      case neg =>
        have HP := hide ((unhide HU).stop (fun c h0 hc he => by
          have h1 := unhide HMIN c h0 hc he
          unfold rlt at *
          omega))
        rw [decide_eq_false hlt]
        go_wp2_with fail
        go_ret
        exact ⟨_, rfl, L, unhide HP, unhide HF⟩
      rw [decide_eq_true hlt]
      have c1 := (unhide HF).fr.box.cell (i := 0) rfl
      have hM2 := methSwap c1
      have HSW := hide (swap_any B g n cap L i j1 w2 (unhide HF).fr.row (unhide HL) (by omega) (by omega))
      have HUN := hide ((unhide HU).next hl2 hjm hjI (by omega) hlt (unhide HMIN))
      have HMEM := hide (fun x => swp_mem (L := L) (i := i) (j := j1) (by omega) (by omega) x)
      have HOUT : Hid (∀ k, m ≤ k → (swp L i j1).getD k (0, 0) = L.getD k (0, 0)) := fun k hk => by rw [swp_at (by omega) (by omega), if_neg (by omega), if_neg (by omega)]
      go_wp2_with fail
      refine (unhide HSW).mono ?_
      rintro e w3 ⟨rfl, hr, hk⟩
      have HF2 : Hid (DnAns w w3 B gf g n cap m L0 (swp L i j1)) := ⟨(unhide HF).fr.swap hr hk, fun x => (unhide HMEM x).trans ((unhide HF).mem x), (unhide HF).kept.trans hk, fun k hkm => (unhide HOUT k hkm).trans ((unhide HF).out k hkm)⟩
      clear hr hk HSW hM2 c1
      go_wp2_with fail
      go_roundg (m - j1)
      case measure => have := unhide HG; omega
      case rel => exact ⟨j1, swp L i j1, Nat.le_of_lt hjm, rfl, rfl, HF2, HUN⟩

end Go.Proofs.Ytdpcacfgbjllhaa

/- Contract of the frontier's Pop. -/
namespace Go.Proofs.Ytdpcacfgbjllhaa
open Go.RowKit

theorem rcTake (L : List I2) (m : Nat) (hm : m ≤ L.length) : (recCells 2 e2 L).take (m * 2) = recCells 2 e2 (L.take m) := by
  apply List.ext_getElem?
  intro q
  by_cases hq : q < m * 2
  · rw [List.getElem?_take, if_pos hq, rcAt L (by omega), rcAt _ (by rw [List.length_take]; omega)]
    have e : (L.take m).getD (q / 2) default = L.getD (q / 2) default := by
      rw [List.getD_eq_getElem?_getD, List.getElem?_take, if_pos (by omega), List.getD_eq_getElem?_getD]
    rw [e]
  · rw [List.getElem?_take, if_neg hq, List.getElem?_eq_none (by rw [recCells_length, List.length_take]; omega)]
theorem ownsRow_takeG {w : World} {base : Nat} {e : TypeId} {size g m n cap : Nat} {xs : List Value} (h : w.ownsRow base e size (.slice (some ⟨g, 0, none⟩) n cap) n xs) (hm : m ≤ n) :
    w.ownsRow base e size (.slice (some ⟨g, 0, none⟩) m cap) m (xs.take (m * size)) := by
  obtain ⟨h1, h2⟩ := h
  have hms : m * size ≤ n * size := Nat.mul_le_mul_right _ hm
  refine ⟨by rw [List.length_take]; omega, ?_⟩
  rcases h2 with ⟨hv, _⟩ | ⟨g', cap', cur, hv, hg, hh, hc, hmx, hs, ht⟩
  · cases hv
  · simp only [Value.slice.injEq, Option.some.injEq, Addr.mk.injEq, and_true, true_and] at hv
    obtain ⟨rfl, rfl⟩ := hv
    refine Or.inr ⟨g, cap, cur, rfl, hg, hh, by omega, hmx, hs, ?_⟩
    rw [← ht, List.take_take, Nat.min_eq_left hms]

set_option maxRecDepth 10000 in
set_option maxHeartbeats 8000000 in
theorem frPop_any (B gf g n cap : Nat) (L : List Rc) (w : World) (h : Fr w B gf g (n + 1) cap L) (hn : n ≤ 1000000) (hc1 : n + 1 ≤ cap) :
    Calls Try.prog 86 #[.pointer (some ⟨gf, 0, none⟩)] w fun e w' => e = .returned (.iface 64 (.agg #[.int .i64 (L.getD n (0, 0)).1, .int .i64 (L.getD n (0, 0)).2])) ∧ Fr w' B gf g n cap (L.take n) ∧ Kept (fun b => b = gf) w w' := by
  obtain ⟨-, hO⟩ := ownsRow_ownG h.row
  have hl := h.len
  have HLn : Hid (n = (L.take n).length) := by show _ = _; rw [List.length_take]; omega
  have ha0 := hO.cell (i := n * 2) (v := .int .i64 (L.getD n (0, 0)).1) (by rw [rcAt L (by omega), show n * 2 / 2 = n by omega, show n * 2 % 2 = 0 by omega]; rfl)
  have ha1 := hO.cell (i := n * 2 + 1) (v := .int .i64 (L.getD n (0, 0)).2) (by rw [rcAt L (by omega), show (n * 2 + 1) / 2 = n by omega, show (n * 2 + 1) % 2 = 1 by omega]; rfl)
  generalize (L.getD n (0, 0)).1 = x at *
  generalize (L.getD n (0, 0)).2 = y at *
  have c0 := h.box.cell (i := 0) rfl
  have fz := h.box.frozen
  have hlt := h.box.lt
  have hlg := hO.lt
  have hne := h.ne
  have A := Below.alloc1 w (.cells #[.int .i64 x, .int .i64 y] 64)
  have HR := hide (rcTake L n (by omega) ▸ ownsRow_takeG h.row (show n ≤ n + 1 by omega))
  have HB := hide h.box
  have HA := hide A
  have i1 : IntKind.i64.wrap (((n : Int) + 1) - 1) = (n : Int) := by rw [IntKind.wrap_i64]; omega
  have i2 : IntKind.i64.wrap (((n + 1 : Nat) : Int) - 1) = (n : Int) := by rw [IntKind.wrap_i64]; omega
  have c0' := (A.cell (lt_of_cell c0)).trans c0
  clear h hO hl A
  go_enter Try.func86, Try.ntmps86
  go_wp2
  go_ret
  refine ⟨rfl, ⟨((unhide HB).set 0 (.slice (some ⟨g, 0, none⟩) n cap) (by simp)).alloc _, ?_, unhide HLn, hne⟩, ?_⟩
  · refine ownsRow_below (ownsRow_setCell_other (unhide HR) (a := ⟨gf, 0, none⟩) ?_ _) (Below.alloc1 _ _)
    simp only [Value.ownBlock, ne_eq, Option.some.injEq]
    exact fun e => hne e.symm
  · exact ((Kept.refl (fun b => b = gf) w).setCell (p := ⟨gf, 0, none⟩) rfl _).trans (kept_of_below (Below.alloc1 _ _))

end Go.Proofs.Ytdpcacfgbjllhaa

/- Contract of container/heap's Pop over the program's frontier. -/
namespace Go.Proofs.Ytdpcacfgbjllhaa
open Go.RowKit

theorem lenR_any (ao : Option Addr) (n cap : Nat) (w : World) : Calls Try.prog 33 #[.slice ao n cap] w fun e w' => e = .returned (.int .i64 (n : Int)) ∧ w = w' := by
  go_enter Try.func33, Try.ntmps33
  go_wp2
  go_ret
  exact ⟨rfl, rfl⟩
theorem take_mem {L : List Rc} {n : Nat} (hl : n + 1 = L.length) (x : Rc) : x ∈ L ↔ x ∈ L.take n ∨ x = L.getD n (0, 0) := by
  have e : L = L.take n ++ [L.getD n (0, 0)] := by
    apply List.ext_getElem?
    intro r
    by_cases h : r < n
    · rw [List.getElem?_append_left (by rw [List.length_take]; omega), List.getElem?_take, if_pos h]
    · by_cases h2 : r = n
      · subst h2
        rw [List.getElem?_append_right (by rw [List.length_take]; omega), List.length_take, show r - min r L.length = 0 by omega, getD_lt (show r < L.length by omega), List.getElem?_eq_getElem (show r < L.length by omega)]
        rfl
      · rw [List.getElem?_eq_none (by omega), List.getElem?_eq_none (by rw [List.length_append, List.length_take]; simp; omega)]
  constructor
  · intro h
    rw [e] at h
    rcases List.mem_append.1 h with h | h
    · exact Or.inl h
    · exact Or.inr (by simpa using h)
  · intro h
    rw [e]
    rcases h with h | h
    · exact List.mem_append.2 (Or.inl h)
    · exact List.mem_append.2 (Or.inr (by simp [h]))
theorem Hp.take {L : List Rc} {n : Nat} (h : Hp L n) : Hp (L.take n) n := by
  intro c h0 hc
  have e : ∀ k, k < n → (L.take n).getD k (0, 0) = L.getD k (0, 0) := fun k hk => by rw [List.getD_eq_getElem?_getD, List.getElem?_take, if_pos hk, List.getD_eq_getElem?_getD]
  rw [e c hc, e _ (by omega)]
  exact h c h0 hc

set_option maxRecDepth 10000 in
set_option maxHeartbeats 8000000 in
theorem heapPop_any (B gf g n cap : Nat) (L : List Rc) (w : World) (h : Fr w B gf g (n + 1) cap L) (hh : Hp L (n + 1)) (hn : n + 1 ≤ 1000000) (hc1 : n + 1 ≤ cap) :
    Calls Try.prog 59 #[.iface 57 (.pointer (some ⟨gf, 0, none⟩))] w fun e w' => e = .returned (.iface 64 (.agg #[.int .i64 (L.getD 0 (0, 0)).1, .int .i64 (L.getD 0 (0, 0)).2])) ∧ ∃ L', Hp L' n ∧ (∀ x, x ∈ L ↔ x ∈ L' ∨ x = L.getD 0 (0, 0)) ∧ Fr w' B gf g n cap L' ∧ Kept (fun b => b = g ∨ b = gf) w w' := by
  have hl := h.len
  have HF := hide h
  have HD := hide (hpDn_pop hh (by omega))
  have c0 := h.box.cell (i := 0) rfl
  have hM1 := methLen c0
  have hM2 := methSwap c0
  have HLE := hide (lenR_any (some ⟨g, 0, none⟩) (n + 1) cap w)
  have HSW := hide (swap_any B g (n + 1) cap L 0 n w h.row hl (by omega) (by omega))
  have HMS := hide (fun x => swp_mem (L := L) (i := 0) (j := n) (by omega) (by omega) x)
  have HA0 : Hid ((swp L 0 n).getD n (0, 0) = L.getD 0 (0, 0)) := by show _ = _; rw [swp_at (by omega) (by omega), if_pos rfl]
  have HLn := hide hl
  have i1 : IntKind.i64.wrap (((n : Int) + 1) - 1) = (n : Int) := by rw [IntKind.wrap_i64]; omega
  have i2 : IntKind.i64.wrap (((n + 1 : Nat) : Int) - 1) = (n : Int) := by rw [IntKind.wrap_i64]; omega
  clear h hh hl
  go_enter Try.func59, Try.ntmps59
  go_wp2_with fail
  refine (unhide HLE).mono ?_
  rintro e w1 ⟨rfl, h9⟩
  subst h9
  clear HLE hM1
  go_wp2_with fail
  refine (unhide HSW).mono ?_
  rintro e w2 ⟨rfl, hr, hk⟩
  have HF2 := hide ((unhide HF).swap hr hk)
  have HK2 := hide (hk.mono (T' := fun b => b = g ∨ b = gf) (fun b _ hb => Or.inl hb))
  clear hr hk hM2 c0 HSW HF
  have HDN := hide (down_any B gf g (n + 1) cap n (swp L 0 n) w2 (unhide HF2) (by omega) (unhide HD) (by omega))
  go_wp2_with fail
  refine (unhide HDN).mono ?_
  rintro e w3 ⟨bb, rfl, L2, hp2, hd2⟩
  have HP2 := hide hp2
  have HD2 := hide hd2
  clear hp2 hd2 HDN HF2 HD
  have hM3 := methPop w3 gf
  have HPP := hide (frPop_any B gf g n cap L2 w3 (unhide HD2).fr (by omega) hc1)
  have HE0 : Hid (L2.getD n (0, 0) = L.getD 0 (0, 0)) := ((unhide HD2).out n (Nat.le_refl _)).trans (unhide HA0)
  rw [unhide HE0] at HPP
  go_wp2_with fail
  refine (unhide HPP).mono ?_
  rintro e w4 ⟨rfl, hf4, hk4⟩
  have HF4 := hide hf4
  have HK4 := hide (((unhide HK2).trans ((unhide HD2).kept.mono (T' := fun b => b = g ∨ b = gf) (fun b _ hb => Or.inl hb))).trans (hk4.mono (T' := fun b => b = g ∨ b = gf) (fun b _ hb => Or.inr hb)))
  have HME : Hid (∀ x, x ∈ L ↔ x ∈ L2.take n ∨ x = L.getD 0 (0, 0)) := fun x => by
    rw [← unhide HE0, ← take_mem (unhide HD2).fr.len x, (unhide HD2).mem x, unhide HMS x]
  clear hf4 hk4 HPP hM3
  go_wp2
  go_ret
  exact ⟨rfl, L2.take n, (unhide HP2).take, unhide HME, unhide HF4, unhide HK4⟩

end Go.Proofs.Ytdpcacfgbjllhaa

/- Contract of the frontier's cheapest. -/
namespace Go.Proofs.Ytdpcacfgbjllhaa
open Go.RowKit

theorem Fr.other {W : World} {B gf g n cap : Nat} {L : List Rc} (h : Fr W B gf g n cap L) {b : Nat} (h1 : b ≠ gf) (h2 : b ≠ g) (i : Nat) (u : Value) : Fr (W.setCell ⟨b, i, none⟩ u) B gf g n cap L :=
  ⟨h.box.other (a := ⟨b, i, none⟩) (fun e => h1 e.symm) u, ownsRow_setCell_other h.row (a := ⟨b, i, none⟩) (by simp only [Value.ownBlock, ne_eq, Option.some.injEq]; exact fun e => h2 e.symm) u, h.len, h.ne⟩
theorem Kept.fresh {T : Nat → Prop} {w w' : World} (h : Kept T w w') {b : Nat} (hb : w.heap.size ≤ b) (i : Nat) (u : Value) : Kept T w (w'.setCell ⟨b, i, none⟩ u) :=
  ⟨h.os, h.tape, h.output, by rw [Go.Deep.nblk_setCell]; exact h.size, fun k hk hn => by rw [Go.Deep.blk_setCell_other w' ⟨b, i, none⟩ u k (by show k ≠ b; omega)]; exact h.block k hk hn⟩

set_option maxRecDepth 100000 in
theorem assertReach (v : Value) (W : World) : (Instr.typeAssert (.iface 64 v) 20 64 false).run Try.prog W = .ok v W := by
  first | kernel_rfl | simp [Instr.typeAssert, go_sem]

set_option maxRecDepth 10000 in
set_option maxHeartbeats 8000000 in
theorem frCheapest_any (B gf g n cap : Nat) (L : List Rc) (w : World) (h : Fr w B gf g (n + 1) cap L) (hh : Hp L (n + 1)) (hn : n + 1 ≤ 1000000) (hc1 : n + 1 ≤ cap) :
    Calls Try.prog 34 #[.pointer (some ⟨gf, 0, none⟩)] w fun e w' => e = .returned (.agg #[.int .i64 (L.getD 0 (0, 0)).1, .int .i64 (L.getD 0 (0, 0)).2]) ∧ ∃ L', Hp L' n ∧ (∀ x, x ∈ L ↔ x ∈ L' ∨ x = L.getD 0 (0, 0)) ∧ Fr w' B gf g n cap L' ∧ Kept (fun b => b = g ∨ b = gf) w w' := by
  have A := Below.alloc1 w (.cells #[.int .i64 0, .int .i64 0] 64)
  have O := ownV_alloc w #[.int .i64 0, .int .i64 0] 64
  have hlt := h.lt
  have HP := hide (heapPop_any B gf g n cap L _ (h.bd ⟨A, Nat.le_refl _⟩) hh hn hc1)
  have HA := hide A
  have HO := hide O
  obtain ⟨hl1, hl2⟩ := hlt
  clear h hh A O
  generalize (L.getD 0 (0, 0)) = z at *
  obtain ⟨x, y⟩ := z
  dsimp only at *
  go_enter Try.func34, Try.ntmps34
  go_wp2_with fail
  refine (unhide HP).mono ?_
  rintro e w1 ⟨rfl, L', hp, hmem, hf, hk⟩
  have HO1 := hide ((unhide HO).kept hk (by omega))
  have a0 := (unhide HO1).cell (i := 0) rfl
  have a1 := (unhide HO1).cell (i := 1) rfl
  have fz := (unhide HO1).frozen
  have HH := hide hp
  have HM := hide hmem
  have HF := hide hf
  have HK := hide ((kept_of_below (T := fun b => b = g ∨ b = gf) (unhide HA)).trans hk)
  clear hp hmem hf hk HP
  have hTA := assertReach (.agg #[.int .i64 x, .int .i64 y]) w1
  have HO2 := hide (((unhide HO1).set 0 (.int .i64 x) (by simp)).set 1 (.int .i64 y) (by simp))
  have k0 := (unhide HO2).cell (i := 0) rfl
  have k1 := (unhide HO2).cell (i := 1) rfl
  have HF2 := hide (((unhide HF).other (b := w.heap.size) (by omega) (by omega) 0 (.int .i64 x)).other (b := w.heap.size) (by omega) (by omega) 1 (.int .i64 y))
  have HK2 := hide (((unhide HK).fresh (b := w.heap.size) (Nat.le_refl _) 0 (.int .i64 x)).fresh (b := w.heap.size) (Nat.le_refl _) 1 (.int .i64 y))
  go_wp2
  refine bodyPost_ret (v := .agg #[.int .i64 x, .int .i64 y]) (by simp [results, Try.results34, go_sem, k0, k1]) rfl ⟨rfl, L', unhide HH, unhide HM, unhide HF2, unhide HK2⟩

end Go.Proofs.Ytdpcacfgbjllhaa

/- Contracts of the frontier's Push and of container/heap's Push over it. -/
namespace Go.Proofs.Ytdpcacfgbjllhaa
open Go.RowKit

/-- The frontier at block gf, with a row or with none yet. -/
structure FrN (W : World) (B gf : Nat) (sv : Value) (n : Nat) (L : List Rc) : Prop where
  box : OwnV W gf [sv]
  row : W.ownsRow B 64 2 sv n (recCells 2 e2 L)
  len : n = L.length
  lt : gf < B
theorem FrN.of {W : World} {B gf g n cap : Nat} {L : List Rc} (h : Fr W B gf g n cap L) (hB : gf < B) : FrN W B gf (.slice (some ⟨g, 0, none⟩) n cap) n L := ⟨h.box, h.row, h.len, hB⟩
theorem FrN.fr {W : World} {B gf g n cap : Nat} {L : List Rc} (h : FrN W B gf (.slice (some ⟨g, 0, none⟩) n cap) n L) : Fr W B gf g n cap L :=
  ⟨h.box, h.row, h.len, by have := (ownsRow_ownG h.row).1; have := h.lt; omega⟩
theorem FrN.sl {W : World} {B gf n : Nat} {sv : Value} {L : List Rc} (h : FrN W B gf sv n L) : ∃ a cap, sv = .slice a n cap ∧ n ≤ cap := by
  rcases h.row.2 with ⟨hv, hn⟩ | ⟨g, cap, cur, hv, _, _, hc, _⟩
  · exact ⟨none, 0, by rw [hv, hn], by omega⟩
  · exact ⟨_, cap, hv, hc⟩
theorem FrN.got {W : World} {B gf n : Nat} {sv : Value} {L : List Rc} (h : FrN W B gf sv (n + 1) L) : ∃ g cap, sv = .slice (some ⟨g, 0, none⟩) (n + 1) cap ∧ n + 1 ≤ cap ∧ B ≤ g := by
  rcases h.row.2 with ⟨hv, hn⟩ | ⟨g, cap, cur, hv, hg, _, hc, _⟩
  · omega
  · exact ⟨g, cap, hv, hc, hg⟩
theorem FrN.own {W : World} {B gf n g : Nat} {sv : Value} {L : List Rc} (h : FrN W B gf sv n L) (hg : sv.ownBlock = some g) : B ≤ g ∧ g < W.heap.size := h.row.lt g hg
theorem FrN.below {W W' : World} {B gf n : Nat} {sv : Value} {L : List Rc} (h : FrN W B gf sv n L) (hb : Below W.heap.size W W') : FrN W' B gf sv n L := ⟨h.box.step hb, ownsRow_below h.row hb, h.len, h.lt⟩
theorem Kept.on {T T' : Nat → Prop} {w w1 w2 : World} (h : Kept T w w1) (h' : Kept T' w1 w2) (hT : ∀ k, k < w.heap.size → T' k → T k) : Kept T w w2 :=
  ⟨h'.os.trans h.os, h'.tape.trans h.tape, h'.output.trans h.output, Nat.le_trans h.size h'.size, fun k hk hn => (h'.block k (Nat.lt_of_lt_of_le hk h.size) (fun t => hn (hT k hk t))).trans (h.block k hk hn)⟩
theorem rcSnoc (L : List I2) (x y : Int) : recCells 2 e2 (L ++ [(x, y)]) = recCells 2 e2 L ++ [.int .i64 x, .int .i64 y] := by
  apply List.ext_getElem?
  intro q
  by_cases h1 : q < L.length * 2
  · rw [rcAt _ (by rw [List.length_append]; simp; omega), List.getElem?_append_left (by rw [recCells_length]; exact h1), rcAt L h1]
    have e : (L ++ [(x, y)]).getD (q / 2) default = L.getD (q / 2) default := by
      rw [List.getD_eq_getElem?_getD, List.getElem?_append_left (by omega), List.getD_eq_getElem?_getD]
    rw [e]
  · rw [List.getElem?_append_right (by rw [recCells_length]; omega), recCells_length]
    by_cases h2 : q < L.length * 2 + 2
    · rw [rcAt _ (by rw [List.length_append]; simp; omega)]
      have e : (L ++ [(x, y)]).getD (q / 2) default = (x, y) := by
        rw [List.getD_eq_getElem?_getD, List.getElem?_append_right (by omega), show q / 2 - L.length = 0 by omega]
        rfl
      rw [e]
      by_cases h3 : q = L.length * 2
      · rw [show q - L.length * 2 = 0 by omega, show q % 2 = 0 by omega]; rfl
      · rw [show q - L.length * 2 = 1 by omega, show q % 2 = 1 by omega]; rfl
    · rw [List.getElem?_eq_none (by rw [recCells_length, List.length_append]; simp; omega), List.getElem?_eq_none (by simp; omega)]
theorem cell_two_newR (w : World) (x y : Value) (t : TypeId) : ∀ j u, [x, y][j]? = some u → (w.alloc (.cells #[x, y] t)).cell? ((⟨w.heap.size, 0, none⟩ : Addr).add j) = some u := fun j u hu => by
  have h := (ownV_alloc w #[x, y] t).cell (i := j) hu
  rw [Go.WideShapes.add_plain, Nat.zero_add]
  exact h
theorem Try.infoReach : (Try.prog.info? 64).map (fun i => (i.zero, i.size, i.bytes)) = some (some (Value.agg #[.int .i64 0, .int .i64 0]), 2, 16) := by kernel_rfl
theorem Try.underReaches : Try.prog.underlying 59 = some (.slice 64) := by kernel_rfl

set_option maxRecDepth 10000 in
set_option maxHeartbeats 4000000 in
theorem frPush_any (B gf : Nat) (sv : Value) (n : Nat) (L : List Rc) (x y : Int) (w : World) (h : FrN w B gf sv n L) (hn : n ≤ 1000000) (hB : B ≤ w.heap.size) :
    Calls Try.prog 87 #[.pointer (some ⟨gf, 0, none⟩), .iface 64 (.agg #[.int .i64 x, .int .i64 y])] w fun e w' => e = .returned (.tuple #[]) ∧ ∃ g cap, FrN w' B gf (.slice (some ⟨g, 0, none⟩) (n + 1) cap) (n + 1) (L ++ [(x, y)]) ∧ (sv.ownBlock = some g ∨ w.heap.size ≤ g) ∧ Kept (fun b => b = gf ∨ sv.ownBlock = some b) w w' := by
  obtain ⟨i1, hi', hy0, hy1, hy2⟩ := info_parts Try.infoReach
  obtain ⟨a, cap, rfl, hcap⟩ := h.sl
  have HF := hide h
  have hl := h.len
  have HL := hide hl
  have hlt := h.box.lt
  have hgB := h.lt
  have c0 := h.box.cell (i := 0) rfl
  have fz := h.box.frozen 0
  have c0a : ∀ o, (w.alloc o).cell? ⟨gf, 0, none⟩ = some (.slice a n cap) := fun o => wcell3 c0 (Below.alloc1 w o)
  have c0d : w.drew.cell? ⟨gf, 0, none⟩ = some (.slice a n cap) := c0
  have hTA : ∀ W, (Instr.typeAssert (.iface 64 (.agg #[.int .i64 x, .int .i64 y])) 20 64 false).run Try.prog W = .ok (.agg #[.int .i64 x, .int .i64 y]) W := fun W => assertReach _ W
  clear h hl
  go_enter Try.func87, Try.ntmps87
  go_wp2
  go_region_law (refine step_append_lies _ (by rfl) (.tmp 8) (.tmp 11) 59 (by rfl) B 64 i1 _ 2 16 Try.underReaches hi' hy0 hy1 hy2 rfl (by decide) (.slice a n cap) n (recCells 2 e2 L) (by rfl) ((unhide HF).row.alloc _).drew ⟨w.heap.size, 0, none⟩ 1 1 [.int .i64 x, .int .i64 y] (by rfl) (by rfl) (cell_two_newR _ _ _ _) (by simp [Value.oneCell']) (by omega) (by unfold maxLen; omega) (by omega) (by simp; omega) (w.heap.size + 1) (by simp) ?_; intro g4 cap4 w2 hown' hgrow hat hlt4; have HKA : Hid (Kept (fun b => (Value.slice a n cap).ownBlock = some b) w w2) := ((kept_of_below (((Below.refl w.heap.size w).alloc (Nat.le_refl _) _).drew)).grown hgrow (fun k hk => hk)); have q3 := (unhide HF).box.kept (unhide HKA) (fun e => by have := ((unhide HF).own e).1; omega); have q4 := q3.cell (i := 0) rfl; have q5 := q3.frozen 0; have HQ3 := hide q3; have HO3 := hide hown'; have HAT : Hid ((Value.slice a n cap).ownBlock = some g4 ∨ w.heap.size ≤ g4) := (hat.imp id (fun e => by omega)); clear hown' hgrow hat q3)
  all_goals
    go_wp2
    go_end0
    have hg4 := (ownsRow_ownG (unhide HO3)).1
    refine ⟨rfl, g4, cap4, ⟨(unhide HQ3).set 0 _ (by simp), ?_, by rw [List.length_append, ← unhide HL]; rfl, hgB⟩, unhide HAT, ?_⟩
    · rw [rcSnoc]
      refine ownsRow_setCell_other (unhide HO3) (a := ⟨gf, 0, none⟩) ?_ _
      simp only [Value.ownBlock, ne_eq, Option.some.injEq]
      omega
    · exact Kept.setCell (T := fun b => b = gf ∨ (Value.slice a n cap).ownBlock = some b) ((unhide HKA).mono (fun k _ e => Or.inr e)) (p := ⟨gf, 0, none⟩) (Or.inl rfl) _

set_option maxRecDepth 10000 in
set_option maxHeartbeats 4000000 in
theorem heapPush_any (B gf : Nat) (sv : Value) (n : Nat) (L : List Rc) (x y : Int) (w : World) (h : FrN w B gf sv n L) (hh : Hp L n) (hn : n + 1 ≤ 1000000) (hB : B ≤ w.heap.size) :
    Calls Try.prog 32 #[.iface 57 (.pointer (some ⟨gf, 0, none⟩)), .iface 64 (.agg #[.int .i64 x, .int .i64 y])] w fun e w' => e = .returned (.tuple #[]) ∧ ∃ g cap L', FrN w' B gf (.slice (some ⟨g, 0, none⟩) (n + 1) cap) (n + 1) L' ∧ Hp L' (n + 1) ∧ (∀ e, e ∈ L' ↔ e ∈ L ∨ e = (x, y)) ∧ (sv.ownBlock = some g ∨ w.heap.size ≤ g) ∧ Kept (fun b => b = gf ∨ sv.ownBlock = some b) w w' := by
  have hl := h.len
  have hgB := h.lt
  have HP := hide (frPush_any B gf sv n L x y w h (by omega) hB)
  have hM := methPush w gf
  have HU : Hid (HpUp (L ++ [(x, y)]) (n + 1) n) := by
    show HpUp _ _ _
    subst hl
    exact hpUp_push hh (x, y)
  have i1 : IntKind.i64.wrap (((n : Int) + 1) - 1) = (n : Int) := by rw [IntKind.wrap_i64]; omega
  have i2 : IntKind.i64.wrap (((n + 1 : Nat) : Int) - 1) = (n : Int) := by rw [IntKind.wrap_i64]; omega
  clear h hh hl
  go_enter Try.func32, Try.ntmps32
  go_wp2_with fail
  refine (unhide HP).mono ?_
  rintro e w1 ⟨rfl, g, cap, hf, hat, hk⟩
  have HF := hide hf
  have HAT := hide hat
  have HK := hide hk
  have c1 := hf.box.cell (i := 0) rfl
  have hM2 := methLen c1
  have HLE := hide (lenR_any (some ⟨g, 0, none⟩) (n + 1) cap w1)
  have HUP := hide (up_any B gf g (n + 1) cap _ n w1 hf.fr (by omega) (unhide HU) hn)
  clear hf hat hk HP hM
  go_wp2_with fail
  refine (unhide HLE).mono ?_
  rintro e w2 ⟨rfl, h9⟩
  subst h9
  clear HLE
  go_wp2_with fail
  refine (unhide HUP).mono ?_
  rintro e w3 ⟨rfl, L', hp, ha⟩
  have HPP := hide hp
  have HA := hide ha
  clear hp ha HUP
  go_wp2
  go_end0
  refine ⟨rfl, g, cap, L', FrN.of (unhide HA).fr hgB, unhide HPP, fun e => ?_, unhide HAT, (unhide HK).on (unhide HA).kept (fun k hk e => ?_)⟩
  · rw [(unhide HA).mem e, List.mem_append, List.mem_singleton]
  · rcases unhide HAT with h1 | h1
    · exact Or.inr (by rw [e]; exact h1)
    · omega

end Go.Proofs.Ytdpcacfgbjllhaa

/- Cheapest ways by a heap, in numbers: what is held from one taking to the next; in the end the costs are proved. Mathematics; no statement about the program stands here. -/
namespace Go.Proofs.Ytdpcacfgbjllhaa
open Go.RowKit

/-- Costs M that are told for good, reaches L in the heap, none below t; E p q: p by way of q has not been looked at yet. -/
structure Dj (s : Se) (x : Nat) (M : List Int) (L : List Rc) (t : Int) (E : Nat → Nat → Prop) : Prop where
  len : M.length = s.D.length
  t0 : 0 ≤ t
  low : ∀ p, p < s.D.length → -1 ≤ M.getD p 0
  land : ∀ p, p < s.D.length → s.D.getD p 0 = 0 → M.getD p 0 = -1
  top : ∀ p, p < s.D.length → M.getD p 0 ≤ t
  ent : ∀ e, e ∈ L → ∃ p : Nat, e.2 = (p : Int) ∧ p < s.D.length ∧ 0 < s.D.getD p 0 ∧ t ≤ e.1 ∧ e.1 ≤ 1000 * (cnt M : Int) ∧ ((p = x ∧ e.1 = 0) ∨ ∃ q, q < s.D.length ∧ 0 ≤ M.getD q 0 ∧ nextB s.wd (p : Int) (q : Int) = true ∧ e.1 = M.getD q 0 + s.D.getD p 0)
  beg : M.getD x 0 = 0 ∨ ((0, (x : Int)) ∈ L ∧ ∀ e, e ∈ L → e = (0, (x : Int)))
  cov : ∀ p q, p < s.D.length → q < s.D.length → 0 ≤ M.getD q 0 → 0 < s.D.getD p 0 → nextB s.wd (p : Int) (q : Int) = true → 0 ≤ M.getD p 0 ∨ (M.getD q 0 + s.D.getD p 0, (p : Int)) ∈ L ∨ E p q
  rel : ∀ p q, p < s.D.length → q < s.D.length → 0 ≤ M.getD q 0 → 0 ≤ M.getD p 0 → nextB s.wd (p : Int) (q : Int) = true → M.getD p 0 ≤ M.getD q 0 + s.D.getD p 0
  came : ∀ p, p < s.D.length → 0 ≤ M.getD p 0 → p = x ∨ ∃ q, q < s.D.length ∧ 0 ≤ M.getD q 0 ∧ nextB s.wd (p : Int) (q : Int) = true ∧ M.getD q 0 + s.D.getD p 0 ≤ M.getD p 0
  high : ∀ p, p < s.D.length → 0 ≤ M.getD p 0 → M.getD p 0 + 1000 ≤ 1000 * (cnt M : Int)

theorem Dj.cnt_le {s : Se} {x : Nat} {M : List Int} {L : List Rc} {t : Int} {E : Nat → Nat → Prop} (h : Dj s x M L t E) : cnt M ≤ s.D.length := by rw [← h.len]; exact List.countP_le_length
theorem cnt_none (n : Nat) : cnt (List.replicate n (-1)) = 0 := by
  unfold cnt
  rw [List.countP_eq_zero]
  intro a ha
  rw [List.eq_of_mem_replicate ha]
  simp
theorem repl_at {n p : Nat} (h : p < n) : (List.replicate n (-1 : Int)).getD p 0 = -1 := by simp [List.getD, h]
theorem dj_start {s : Se} {x : Nat} (hx : x < s.D.length) (hd : 0 < s.D.getD x 0) : Dj s x (List.replicate s.D.length (-1)) [(0, (x : Int))] 0 (fun _ _ => False) where
  len := by simp
  t0 := by omega
  low := fun p hp => by rw [repl_at hp]; omega
  land := fun p hp _ => repl_at hp
  top := fun p hp => by rw [repl_at hp]; omega
  ent := fun e he => by
    rw [List.mem_singleton] at he
    subst he
    exact ⟨x, rfl, hx, hd, by simp, by rw [cnt_none]; simp, Or.inl ⟨rfl, rfl⟩⟩
  beg := Or.inr ⟨by simp, fun e he => by simpa using he⟩
  cov := fun p q hp hq h0 => by rw [repl_at hq] at h0; omega
  rel := fun p q hp hq h0 => by rw [repl_at hq] at h0; omega
  came := fun p hp h0 => by rw [repl_at hp] at h0; omega
  high := fun p hp h0 => by rw [repl_at hp] at h0; omega
/-- What is taken is told already. -/
theorem Dj.old {s : Se} {x : Nat} {M : List Int} {L L' : List Rc} {t : Int} {c : Int} {p : Nat} (h : Dj s x M L t (fun _ _ => False)) (hm : ∀ e, e ∈ L ↔ e ∈ L' ∨ e = (c, (p : Int))) (hp : 0 ≤ M.getD p 0) : Dj s x M L' t (fun _ _ => False) where
  len := h.len
  t0 := h.t0
  low := h.low
  land := h.land
  top := h.top
  ent := fun e he => h.ent e ((hm e).2 (Or.inl he))
  beg := by
    rcases h.beg with h1 | ⟨h1, h2⟩
    · exact Or.inl h1
    · have hc := h2 _ ((hm (c, (p : Int))).2 (Or.inr rfl))
      simp only [Prod.mk.injEq] at hc
      have ep : p = x := by omega
      subst ep
      by_cases hz : M.getD p 0 = 0
      · exact Or.inl hz
      · exfalso
        obtain ⟨p', e1, e2, e3, f4, -⟩ := h.ent _ h1
        have hpp : p = p' := by simp at e1; omega
        subst hpp
        have := h.top p e2
        simp at f4
        omega
  cov := fun p' q h1 h2 h3 h4 h5 => by
    rcases h.cov p' q h1 h2 h3 h4 h5 with h6 | h6 | h6
    · exact Or.inl h6
    · rcases (hm _).1 h6 with h7 | h7
      · exact Or.inr (Or.inl h7)
      · simp only [Prod.mk.injEq] at h7
        have : p' = p := by omega
        exact Or.inl (by rw [this]; exact hp)
    · exact h6.elim
  rel := h.rel
  came := h.came
  high := h.high
/-- What is taken is told for good. -/
theorem Dj.settle {s : Se} {x : Nat} {M : List Int} {L L' : List Rc} {t : Int} {c : Int} {p : Nat} (hn : SeaN s) (h : Dj s x M L t (fun _ _ => False)) (hm : ∀ e, e ∈ L ↔ e ∈ L' ∨ e = (c, (p : Int))) (hl : ∀ e, e ∈ L → c ≤ e.1) (hp : M.getD p 0 < 0) : Dj s x (M.set p c) L' c (fun _ q => q = p) ∧ cnt (M.set p c) = cnt M + 1 ∧ p < s.D.length ∧ 0 ≤ c ∧ c ≤ 1000 * (cnt M : Int) ∧ (M.set p c).getD x 0 = 0 := by
  have hin : (c, (p : Int)) ∈ L := (hm _).2 (Or.inr rfl)
  obtain ⟨p', e1, hpn, hdp, htc, hcb, hw⟩ := h.ent _ hin
  have epp : p = p' := by simp at e1; omega
  subst epp
  have hc0 : 0 ≤ c := by have := h.t0; simp at htc; omega
  simp only at htc hcb hw
  have hpM : p < M.length := by rw [h.len]; exact hpn
  have hcn : cnt (M.set p c) = cnt M + 1 := by
    have hc := countP_set (f := fun m => decide (0 ≤ m)) hpM c
    rw [if_neg (show ¬ decide (0 ≤ M.getD p 0) = true by rw [decide_eq_true_eq]; omega), if_pos (show decide (0 ≤ c) = true by rw [decide_eq_true_eq]; exact hc0)] at hc
    unfold cnt
    omega
  have hat : ∀ r, (M.set p c).getD r 0 = if r = p then c else M.getD r 0 := fun r => getD_set hpM c
  have hne : ∀ r, 0 ≤ M.getD r 0 → r ≠ p := fun r h0 e => by rw [e] at h0; omega
  have hsame : ∀ r, 0 ≤ M.getD r 0 → (M.set p c).getD r 0 = M.getD r 0 := fun r h0 => by rw [hat, if_neg (hne r h0)]
  have hx0 : (M.set p c).getD x 0 = 0 := by
    rcases h.beg with h1 | ⟨h1, h2⟩
    · rw [hsame x (by omega)]; exact h1
    · have h3 := h2 _ hin
      simp only [Prod.mk.injEq] at h3
      rw [hat, if_pos (by omega)]
      exact h3.1
  refine ⟨⟨by rw [List.length_set]; exact h.len, hc0, fun r hr => ?_, fun r hr hz => ?_, fun r hr => ?_, fun e he => ?_, Or.inl hx0, fun r q hr hq h0 hd hx => ?_, fun r q hr hq h0 h1 hx => ?_, fun r hr h0 => ?_, fun r hr h0 => ?_⟩, hcn, hpn, hc0, hcb, hx0⟩
  · rw [hat]; split
    · omega
    · exact h.low r hr
  · rw [hat, if_neg (fun e => by rw [e] at hz; omega)]; exact h.land r hr hz
  · rw [hat]; split
    · omega
    · have := h.top r hr; omega
  · have heL := (hm e).2 (Or.inl he)
    obtain ⟨r, f1, f2, f3, f4, f5, f6⟩ := h.ent e heL
    refine ⟨r, f1, f2, f3, hl e heL, by rw [hcn]; omega, ?_⟩
    rcases f6 with f6 | ⟨q, q1, q2, q3, q4⟩
    · exact Or.inl f6
    · exact Or.inr ⟨q, q1, by rw [hsame q q2]; exact q2, q3, by rw [hsame q q2]; exact q4⟩
  · by_cases eq : q = p
    · exact Or.inr (Or.inr eq)
    · rw [hat, if_neg eq] at h0
      rw [hat q, if_neg eq]
      rcases h.cov r q hr hq h0 hd hx with h6 | h6 | h6
      · left; rw [hsame r h6]; exact h6
      · rcases (hm _).1 h6 with h7 | h7
        · exact Or.inr (Or.inl h7)
        · simp only [Prod.mk.injEq] at h7
          left
          rw [hat, if_pos (by omega)]
          exact hc0
      · exact h6.elim
  · have hdr := (hn.cost r hr).1
    by_cases er : r = p
    · by_cases eq : q = p
      · rw [er, eq, next_self] at hx; cases hx
      · rw [hat r, if_pos er, hat q, if_neg eq]
        rw [hat q, if_neg eq] at h0
        rcases h.cov r q hr hq h0 (by rw [er]; exact hdp) hx with h6 | h6 | h6
        · rw [er] at h6; omega
        · exact hl _ h6
        · exact h6.elim
    · rw [hat r, if_neg er]
      rw [hat r, if_neg er] at h1
      by_cases eq : q = p
      · rw [hat q, if_pos eq]
        have := h.top r hr
        omega
      · rw [hat q, if_neg eq]
        rw [hat q, if_neg eq] at h0
        exact h.rel r q hr hq h0 h1 hx
  · by_cases er : r = p
    · rw [hat r, if_pos er]
      rcases hw with ⟨w1, -⟩ | ⟨q, q1, q2, q3, q4⟩
      · left; omega
      · exact Or.inr ⟨q, q1, by rw [hsame q q2]; exact q2, by rw [er]; exact q3, by rw [hsame q q2, er]; omega⟩
    · rw [hat r, if_neg er] at h0 ⊢
      rcases h.came r hr h0 with h1 | ⟨q, q1, q2, q3, q4⟩
      · left; exact h1
      · exact Or.inr ⟨q, q1, by rw [hsame q q2]; exact q2, q3, by rw [hsame q q2]; exact q4⟩
  · rw [hcn]
    by_cases er : r = p
    · rw [hat r, if_pos er]; omega
    · rw [hat r, if_neg er] at h0 ⊢
      have := h.high r hr h0
      omega
/-- A pair that has been looked at. -/
theorem Dj.less {s : Se} {x : Nat} {M : List Int} {L : List Rc} {t : Int} {E E' : Nat → Nat → Prop} (h : Dj s x M L t E) (hE : ∀ p q, p < s.D.length → q < s.D.length → E p q → nextB s.wd (p : Int) (q : Int) = true → 0 < s.D.getD p 0 → M.getD p 0 < 0 → E' p q) : Dj s x M L t E' where
  len := h.len
  t0 := h.t0
  low := h.low
  land := h.land
  top := h.top
  ent := h.ent
  beg := h.beg
  cov := fun p q h1 h2 h3 h4 h5 => by
    rcases h.cov p q h1 h2 h3 h4 h5 with h6 | h6 | h6
    · exact Or.inl h6
    · exact Or.inr (Or.inl h6)
    · by_cases h7 : 0 ≤ M.getD p 0
      · exact Or.inl h7
      · exact Or.inr (Or.inr (hE p q h1 h2 h6 h5 h4 (by omega)))
  rel := h.rel
  came := h.came
  high := h.high
theorem Dj.push {s : Se} {x : Nat} {M : List Int} {L L' : List Rc} {t : Int} {E E' : Nat → Nat → Prop} {p q : Nat} (hn : SeaN s) (h : Dj s x M L t E) (hp : p < s.D.length) (hq : q < s.D.length) (hq0 : M.getD q 0 = t) (hd : 0 < s.D.getD p 0) (hx : nextB s.wd (p : Int) (q : Int) = true) (hx0 : M.getD x 0 = 0)
    (hm : ∀ e, e ∈ L' ↔ e ∈ L ∨ e = (t + s.D.getD p 0, (p : Int))) (hE : ∀ p' q', E p' q' → (p' = p ∧ q' = q) ∨ E' p' q') : Dj s x M L' t E' where
  len := h.len
  t0 := h.t0
  low := h.low
  land := h.land
  top := h.top
  ent := fun e he => by
    rcases (hm e).1 he with h1 | h1
    · exact h.ent e h1
    · subst h1
      have h0 := h.t0
      have hh := h.high q hq (by omega)
      have hc := (hn.cost p hp).2
      exact ⟨p, rfl, hp, hd, by show t ≤ t + s.D.getD p 0; omega, by show t + s.D.getD p 0 ≤ _; omega, Or.inr ⟨q, hq, by omega, hx, by show t + s.D.getD p 0 = _; omega⟩⟩
  beg := Or.inl hx0
  cov := fun p' q' h1 h2 h3 h4 h5 => by
    rcases h.cov p' q' h1 h2 h3 h4 h5 with h6 | h6 | h6
    · exact Or.inl h6
    · exact Or.inr (Or.inl ((hm _).2 (Or.inl h6)))
    · rcases hE p' q' h6 with ⟨e1, e2⟩ | h7
      · refine Or.inr (Or.inl ((hm _).2 (Or.inr ?_)))
        rw [e1, e2, hq0]
      · exact Or.inr (Or.inr h7)
  rel := h.rel
  came := h.came
  high := h.high
theorem Dj.proved {s : Se} {x : Nat} {M : List Int} {t : Int} (hn : SeaN s) (hs : seaB s = true) (hx : x < s.D.length) (hxd : 0 < s.D.getD x 0) (h : Dj s x M [] t (fun _ _ => False)) : provesB s (x : Int) M = true := by
  have h0 : M.getD x 0 = 0 := by
    rcases h.beg with h1 | ⟨h1, -⟩
    · exact h1
    · simp at h1
  have hc := h.high x hx (by omega)
  have hbf : BF s x M := ⟨h.len, h0, h.low, h.land, h.came, fun p hp => by
    by_cases h1 : 0 ≤ M.getD p 0
    · exact h.high p hp h1
    · omega⟩
  refine hbf.proved hn hs hx (by omega) (fun p q hp hq hd hq0 hxn => ?_)
  rcases h.cov p q hp hq hq0 hd hxn with h6 | h6 | h6
  · exact ⟨h6, h.rel p q hp hq hq0 h6 hxn⟩
  · simp at h6
  · exact h6.elim

end Go.Proofs.Ytdpcacfgbjllhaa
