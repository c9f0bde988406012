/- Calls in turn, in numbers: who lies while the next one comes, who is given a berth. No statement about the program stands here. -/
import Derived.Test.YtogoknldhimgfaaQyM
namespace Go.Proofs.Ytogoknldhimgfaa

abbrev kyL (L : List CallT) : List Int := L.map fun c => - c.2.2.1
/-- E: the places of the calls in order of From. -/
abbrev Turn (L : List CallT) (E : List Int) : Prop := SP (kyL L) L.length E
theorem ky_from {L : List CallT} {i : Nat} (hi : i < L.length) : ky (kyL L) (i : Int) = - cFr (ca L i) := by
  unfold ky kyL
  rw [Int.toNat_natCast, List.getD_eq_getElem?_getD, List.getElem?_map, List.getElem?_eq_getElem hi]
  show - L[i].2.2.1 = - (L.getD i default).2.2.1
  rw [getD_lt hi]
abbrev eN (E : List Int) (k : Nat) : Nat := (ix E k).toNat
section
variable {L : List CallT} {E : List Int}
theorem Turn.lt (h : Turn L E) {k : Nat} (hk : k < L.length) : eN E k < L.length ∧ ix E k = (eN E k : Int) := by
  obtain ⟨i, h1, h2⟩ := SP.val h hk
  unfold eN
  rw [h2]
  exact ⟨by simpa using h1, by simp⟩
theorem Turn.bf (h : Turn L E) {p q : Nat} (hpq : p < q) (hq : q < L.length) : cFr (ca L (eN E p)) < cFr (ca L (eN E q)) ∨ (cFr (ca L (eN E p)) = cFr (ca L (eN E q)) ∧ eN E p < eN E q) := by
  obtain ⟨p1, p2⟩ := h.lt (k := p) (by omega)
  obtain ⟨q1, q2⟩ := h.lt hq
  have := SP.srt h p q (Nat.zero_le _) hpq hq
  unfold Go.Proofs.Ytogoknldhimgfaa.bf at this
  rw [p2, q2, ky_from p1, ky_from q1] at this
  omega
theorem Turn.fr (h : Turn L E) {p q : Nat} (hpq : p ≤ q) (hq : q < L.length) : cFr (ca L (eN E p)) ≤ cFr (ca L (eN E q)) := by
  by_cases e : p = q
  · subst e; exact Int.le_refl _
  · have := h.bf (p := p) (q := q) (by omega) hq
    omega
theorem Turn.ne (h : Turn L E) {p q : Nat} (hp : p < L.length) (hq : q < L.length) (hne : p ≠ q) : eN E p ≠ eN E q := by
  intro e
  by_cases c : p < q
  · have h1 := h.bf c hq
    rw [e] at h1
    omega
  · have h1 := h.bf (p := q) (q := p) (by omega) hp
    rw [e] at h1
    omega
theorem Turn.has (h : Turn L E) {i : Nat} (hi : i < L.length) : ∃ p, p < L.length ∧ eN E p = i := by
  obtain ⟨k, h1, h2⟩ := SP.has h hi
  exact ⟨k, h1, by unfold eN; rw [h2]; simp⟩
theorem Turn.len (h : Turn L E) : E.length = L.length := SP.len h
theorem Turn.one {E' : List Int} (h : Turn L E) (h' : Turn L E') : E = E' := by
  apply List.ext_getElem?
  intro k
  by_cases hk : k < L.length
  · obtain ⟨i, i1, i2⟩ := SP.val h hk
    obtain ⟨m, m1, m2⟩ := SP.has h' i1
    have r1 := SP.rk h hk
    have r2 := SP.rk h' m1
    rw [i2, ← m2, r2] at r1
    subst r1
    have e : ix E m = ix E' m := i2.trans m2.symm
    unfold ix at e
    rw [getD_lt (by rw [h.len]; exact hk), getD_lt (by rw [h'.len]; exact hk)] at e
    rw [List.getElem?_eq_getElem (by rw [h.len]; exact hk), List.getElem?_eq_getElem (by rw [h'.len]; exact hk), e]
  · rw [List.getElem?_eq_none (by rw [h.len]; omega), List.getElem?_eq_none (by rw [h'.len]; omega)]
theorem turn_ex (L : List CallT) : ∃ E, Turn L E := sp_ex _ _

/-- Those of Y that lie there behind the minute m. -/
abbrev stayL (Y : List CallT) (m : Int) : List CallT := Y.filter fun y => decide (m < cTo y)
structure Lyg (L : List CallT) (E : List Int) (k : Nat) (Y : List CallT) : Prop where
  src : ∀ y ∈ Y, ∃ j, j < k ∧ y = ca L (eN E j) ∧ cAt y ≠ -1
  gone : ∀ j, j < k → cAt (ca L (eN E j)) ≠ -1 → ca L (eN E j) ∈ Y ∨ ∀ t, k ≤ t → t < L.length → cTo (ca L (eN E j)) ≤ cFr (ca L (eN E t))
  apt : Y.Pairwise AptC
  met : ∀ i j, i < j → j < k → ¬ MeetP (ca L (eN E j)) (ca L (eN E i))
theorem Lyg.start (L : List CallT) (E : List Int) : Lyg L E 0 [] := ⟨fun y hy => by simp at hy, fun j hj => by omega, .nil, fun i j h1 h2 => by omega⟩
theorem Lyg.pass {k : Nat} {Y : List CallT} (h : Lyg L E k Y) (hc : cAt (ca L (eN E k)) = -1) : Lyg L E (k + 1) Y := by
  refine ⟨fun y hy => ?_, fun j hj hp => ?_, h.apt, fun i j h1 h2 hm => ?_⟩
  · obtain ⟨j, h1, h2⟩ := h.src y hy
    exact ⟨j, by omega, h2⟩
  · have hjk : j ≠ k := fun e => by rw [e] at hp; exact hp hc
    rcases h.gone j (by omega) hp with h1 | h1
    · exact Or.inl h1
    · exact Or.inr fun t ht => h1 t (by omega)
  · by_cases e : j = k
    · rw [e] at hm
      have := hm.1
      omega
    · exact h.met i j h1 (by omega) hm
theorem Lyg.nums {long : Int} {k : Nat} {Y : List CallT} (h : Lyg L E k Y) (hP : CaP long L) (hT : Turn L E) (hk : k ≤ L.length) : ∀ y ∈ Y, 0 ≤ cAt y ∧ 1 ≤ cLg y ∧ cAt y + cLg y ≤ long := fun y hy => by
  obtain ⟨j, h1, h2, h3⟩ := h.src y hy
  have hc := (hP.2.2 (eN E j) (hT.lt (by omega)).1).2.1
  rw [← h2] at hc
  have h4 := hc.1
  have h5 := hc.2.2
  omega
theorem Lyg.len {k : Nat} {Y : List CallT} (h : Lyg L E k Y) (hT : Turn L E) (hk : k ≤ L.length) : ∀ y ∈ Y, ∃ j, j < L.length ∧ y = ca L j := fun y hy => by
  obtain ⟨j, h1, h2, h3⟩ := h.src y hy
  exact ⟨eN E j, (hT.lt (by omega)).1, h2⟩
theorem Lyg.clash {long : Int} {k : Nat} {Y : List CallT} (h : Lyg L E k Y) (hP : CaP long L) (hT : Turn L E) (hk : k < L.length) (hc : cAt (ca L (eN E k)) ≠ -1) {y : CallT} (hy : y ∈ stayL Y (cFr (ca L (eN E k)))) (hn : ¬ AptC y (ca L (eN E k))) : clB long L = false := by
  obtain ⟨hy, hs⟩ := List.mem_filter.1 hy
  have hs : cFr (ca L (eN E k)) < cTo y := by simpa using hs
  obtain ⟨j, h1, h2, h3⟩ := h.src y hy
  obtain ⟨n1, n2, n3⟩ := h.nums hP hT (by omega) y hy
  have hcc := (hP.2.2 (eN E k) (hT.lt hk).1).2.1
  have c1 := hcc.1
  have c2 := hcc.2.1
  have c3 := hcc.2.2
  have hf := hT.fr (p := j) (q := k) (by omega) hk
  rw [← h2] at hf
  refine clB_meet (i := eN E k) (k := eN E j) (hT.lt hk).1 (hT.lt (by omega)).1 (hT.ne hk (by omega) (by omega)) fun _ => ?_
  rw [← h2]
  refine Classical.byContradiction fun hm => hn (apt_of ?_)
  unfold MeetP at hm
  omega
theorem Lyg.next {long : Int} {k : Nat} {Y : List CallT} (h : Lyg L E k Y) (hP : CaP long L) (hT : Turn L E) (hk : k < L.length) (hc : cAt (ca L (eN E k)) ≠ -1) (ha : ∀ y ∈ stayL Y (cFr (ca L (eN E k))), AptC y (ca L (eN E k))) : Lyg L E (k + 1) (stayL Y (cFr (ca L (eN E k))) ++ [ca L (eN E k)]) := by
  have hcc := (hP.2.2 (eN E k) (hT.lt hk).1).2.1
  have c1 := hcc.1
  have c3 := hcc.2.2
  refine ⟨fun y hy => ?_, fun j hj hp => ?_, ?_, fun i j h1 h2 hm => ?_⟩
  · rcases List.mem_append.1 hy with h1 | h1
    · obtain ⟨j, h2, h3⟩ := h.src y (List.mem_filter.1 h1).1
      exact ⟨j, by omega, h3⟩
    · obtain rfl := List.mem_singleton.1 h1
      exact ⟨k, by omega, rfl, hc⟩
  · by_cases e : j = k
    · subst e; exact Or.inl (by simp)
    · rcases h.gone j (by omega) hp with h1 | h1
      · by_cases hs : cFr (ca L (eN E k)) < cTo (ca L (eN E j))
        · exact Or.inl (List.mem_append_left _ (List.mem_filter.2 ⟨h1, by simpa using hs⟩))
        · refine Or.inr fun t ht htn => ?_
          have := hT.fr (p := k) (q := t) (by omega) htn
          omega
      · exact Or.inr fun t ht => h1 t (by omega)
  · rw [List.pairwise_append]
    refine ⟨h.apt.filter _, List.pairwise_singleton _ _, fun y hy z hz => ?_⟩
    obtain rfl := List.mem_singleton.1 hz
    exact ha y hy
  · by_cases e : j = k
    · subst e
      have hpi : cAt (ca L (eN E i)) ≠ -1 := fun e1 => by have := hm.2.1; omega
      rcases h.gone i h1 hpi with g1 | g1
      · by_cases hs : cFr (ca L (eN E j)) < cTo (ca L (eN E i))
        · have hap := ha _ (List.mem_filter.2 ⟨g1, by simpa using hs⟩)
          obtain ⟨n1, n2, n3⟩ := h.nums hP hT (by omega) _ g1
          have := apt_or n1 (by omega) n2 (by omega) hap
          unfold MeetP at hm
          omega
        · unfold MeetP at hm
          omega
      · have := g1 j (Nat.le_refl _) hk
        unfold MeetP at hm
        omega
    · exact h.met i j h1 (by omega) hm
theorem Lyg.done {Y : List CallT} (h : Lyg L E L.length Y) (hT : Turn L E) : NoMeet L := fun i hi k hk hm => by
  obtain ⟨p, p1, p2⟩ := hT.has hi
  obtain ⟨q, q1, q2⟩ := hT.has (i := k) (by omega)
  have hpq : p ≠ q := fun e => by subst e; omega
  subst p2 q2
  by_cases c : q < p
  · exact h.met q p c p1 hm
  · exact h.met p q (by omega) q1 hm.symm
theorem free_apt {Y : List CallT} {c : CallT} {p m : Nat} (hp : cAt c = (p : Int)) (hm : cLg c = (m : Int)) : freeB (cvL Y) p m = true ↔ ∀ y ∈ Y, AptC y c := by
  constructor
  · intro hf y hy j hj
    have h2 := cvC_iff.1 hj.2
    have := freeB_iff.1 hf (j - p) (by omega)
    rw [show p + (j - p) = j by omega] at this
    have h3 := cvL_iff.2 ⟨y, hy, hj.1⟩
    rw [this] at h3
    cases h3
  · intro ha
    refine freeB_iff.2 fun j hj => ?_
    cases hb : cvL Y (p + j) with
    | false => rfl
    | true =>
      obtain ⟨y, hy, hcv⟩ := cvL_iff.1 hb
      exact absurd ⟨hcv, cvC_iff.2 (by omega)⟩ (ha y hy (p + j))
theorem free_apt_no {Y : List CallT} {c : CallT} {p m : Nat} (hp : cAt c = (p : Int)) (hm : cLg c = (m : Int)) (h : freeB (cvL Y) p m = false) : ∃ y ∈ Y, ¬ AptC y c := by
  refine Classical.byContradiction fun hn => ?_
  have : freeB (cvL Y) p m = true := (free_apt hp hm).2 fun y hy => Classical.byContradiction fun h2 => hn ⟨y, hy, h2⟩
  rw [this] at h
  cases h
theorem cov_cvL {Y : List CallT} {c : CallT} {p m : Nat} (hp : cAt c = (p : Int)) (hm : cLg c = (m : Int)) : covB (cvL Y) p m = cvL (Y ++ [c]) := by
  rw [covB_cv hp hm]
  funext j
  simp [cvL]
theorem unc_cvL {A Z : List CallT} {c : CallT} {p m : Nat} (hp : cAt c = (p : Int)) (hm : cLg c = (m : Int)) (ha : ∀ y ∈ A ++ Z, AptC y c) : uncB (cvL (A ++ c :: Z)) p m = cvL (A ++ Z) := by
  rw [uncB_cv hp hm]
  funext j
  rw [Bool.eq_iff_iff]
  simp only [Bool.and_eq_true, Bool.not_eq_true', cvL_iff]
  constructor
  · rintro ⟨⟨y, hy, h1⟩, h2⟩
    simp only [List.mem_append, List.mem_cons] at hy
    rcases hy with hy | rfl | hy
    · exact ⟨y, List.mem_append_left _ hy, h1⟩
    · rw [h1] at h2; cases h2
    · exact ⟨y, List.mem_append_right _ hy, h1⟩
  · rintro ⟨y, hy, h1⟩
    refine ⟨⟨y, ?_, h1⟩, ?_⟩
    · simp only [List.mem_append, List.mem_cons] at hy ⊢
      rcases hy with hy | hy
      · exact Or.inl hy
      · exact Or.inr (Or.inr hy)
    · cases hb : cvC c j with
      | false => rfl
      | true => exact absurd ⟨h1, hb⟩ (ha y hy j)
/-- Those who stay of the first k, and the others. -/
abbrev lvL (Y : List CallT) (m : Int) (k : Nat) : List CallT := stayL (Y.take k) m ++ Y.drop k
theorem lv_step {Y : List CallT} {k : Nat} (m : Int) (hk : k < Y.length) : stayL (Y.take (k + 1)) m = stayL (Y.take k) m ++ (if m < cTo (ca Y k) then [ca Y k] else []) := by
  have e : Y.take (k + 1) = Y.take k ++ [ca Y k] := by rw [List.take_add_one, List.getElem?_eq_getElem hk, show ca Y k = Y[k] from getD_lt hk]; rfl
  unfold stayL
  rw [e, List.filter_append]
  congr 1
  by_cases h : m < cTo (ca Y k)
  · rw [if_pos h, List.filter_cons_of_pos (by simpa using h), List.filter_nil]
  · rw [if_neg h, List.filter_cons_of_neg (by simpa using h), List.filter_nil]
theorem lv_drop {Y : List CallT} {k : Nat} (hk : k < Y.length) : Y.drop k = ca Y k :: Y.drop (k + 1) := by rw [show ca Y k = Y[k] from getD_lt hk]; exact List.drop_eq_getElem_cons hk
theorem lv_stay {Y : List CallT} {m : Int} {k : Nat} (hk : k < Y.length) (h : m < cTo (ca Y k)) : lvL Y m (k + 1) = lvL Y m k := by
  unfold lvL
  rw [lv_step m hk, if_pos h, lv_drop hk]
  simp
theorem lv_leave {Y : List CallT} {m : Int} {k p n : Nat} (hk : k < Y.length) (h : ¬ m < cTo (ca Y k)) (hp : cAt (ca Y k) = (p : Int)) (hm : cLg (ca Y k) = (n : Int)) (ha : Y.Pairwise AptC) : uncB (cvL (lvL Y m k)) p n = cvL (lvL Y m (k + 1)) := by
  unfold lvL
  rw [lv_step m hk, if_neg h, lv_drop hk, List.append_nil]
  refine unc_cvL hp hm fun y hy => ?_
  have e : Y = Y.take k ++ (ca Y k :: Y.drop (k + 1)) := by rw [← lv_drop hk, List.take_append_drop]
  rw [e, List.pairwise_append, List.pairwise_cons] at ha
  rcases List.mem_append.1 hy with h1 | h1
  · exact ha.2.2 y (List.mem_filter.1 h1).1 _ (by simp)
  · exact (ha.2.1.1 y h1).symm

/-! Berths in turn. -/
def ba (long : Int) (L : List CallT) (E : List Int) : Nat → List CallT
  | 0 => L
  | k + 1 => if cAt (ca (ba long L E k) (eN E k)) = -1 then (ba long L E k).set (eN E k) (setAt (ca (ba long L E k) (eN E k)) (lbV long (ba long L E k) (ca (ba long L E k) (eN E k)))) else ba long L E k
theorem ba_len (long : Int) (L : List CallT) (E : List Int) : ∀ k, (ba long L E k).length = L.length
  | 0 => rfl
  | k + 1 => by
    simp only [ba]
    split
    · rw [List.length_set]; exact ba_len long L E k
    · exact ba_len long L E k
theorem ca_set {M : List CallT} {i j : Nat} (hi : i < M.length) (v : CallT) : ca (M.set i v) j = if j = i then v else ca M j := by
  unfold ca
  simp only [List.getD, List.getElem?_set]
  by_cases e : i = j
  · subst e; simp [hi]
  · rw [if_neg e, if_neg (fun h => e h.symm)]
/-- Nothing but At has changed. -/
theorem ba_like {long : Int} (hT : Turn L E) : ∀ {k : Nat}, k ≤ L.length → ∀ i, ∃ a, ca (ba long L E k) i = setAt (ca L i) a
  | 0, _, i => ⟨_, rfl⟩
  | k + 1, hk, i => by
    obtain ⟨a, ea⟩ := ba_like (long := long) hT (k := k) (by omega) i
    simp only [ba]
    split
    · rw [ca_set (by rw [ba_len]; exact (hT.lt (by omega)).1)]
      split
      · rename_i e1 e2
        subst e2
        exact ⟨lbV long (ba long L E k) (ca (ba long L E k) (eN E k)), by rw [ea]; rfl⟩
      · exact ⟨a, ea⟩
    · exact ⟨a, ea⟩
theorem ba_old {long : Int} (hT : Turn L E) : ∀ {k : Nat}, k ≤ L.length → ∀ {i}, (∀ p, p < k → eN E p ≠ i) → ca (ba long L E k) i = ca L i
  | 0, _, _, _ => rfl
  | k + 1, hk, i, hi => by
    have ih := ba_old (long := long) hT (k := k) (by omega) (i := i) (fun p hp => hi p (by omega))
    simp only [ba]
    split
    · rw [ca_set (by rw [ba_len]; exact (hT.lt (by omega)).1), if_neg (fun e => hi k (by omega) e.symm)]
      exact ih
    · exact ih
theorem ba_at {long : Int} (hT : Turn L E) {k : Nat} (hk : k < L.length) : ca (ba long L E k) (eN E k) = ca L (eN E k) := ba_old hT (by omega) fun _ hp => hT.ne (by omega) hk (by omega)
/-- The calls with a berth for the i-th one are right and clear. -/
theorem set_ok {long : Int} {M : List CallT} (hP : CaP long M) (hN : NoMeet M) {i : Nat} (hi : i < M.length) : CaP long (M.set i (setAt (ca M i) (lbV long M (ca M i)))) ∧ NoMeet (M.set i (setAt (ca M i) (lbV long M (ca M i)))) := by
  have hcs := lbV_cases hP hi
  obtain ⟨v, ev⟩ : ∃ v, v = lbV long M (ca M i) := ⟨_, rfl⟩
  rw [← ev] at hcs ⊢
  clear ev
  have hg : ∀ j, ca (M.set i (setAt (ca M i) v)) j = if j = i then setAt (ca M i) v else ca M j := fun j => ca_set hi _
  have hid : ∀ j, cId (ca (M.set i (setAt (ca M i) v)) j) = cId (ca M j) := fun j => by
    rw [hg]
    split
    · rename_i e; rw [e]; rfl
    · rfl
  constructor
  · refine ⟨hP.1, by rw [List.length_set]; exact hP.2.1, fun k hk => ?_⟩
    rw [List.length_set] at hk
    have hs := hP.2.2 k hk
    unfold CaS
    rw [hid, hid]
    refine ⟨hs.1, ?_, hs.2.2⟩
    rw [hg]
    split
    · rename_i e
      subst e
      refine ⟨hs.2.1.1, hs.2.1.2.1, ?_⟩
      show v = -1 ∨ (0 ≤ v ∧ v + cLg (ca M k) ≤ long)
      rcases hcs with h | ⟨p, h1, h2, _⟩
      · exact Or.inl h
      · exact Or.inr ⟨by omega, by rw [h1]; exact h2⟩
    · exact hs.2.1
  · intro a ha b hb hm
    rw [List.length_set] at ha
    rw [hg, hg] at hm
    by_cases ea : a = i
    · rw [if_pos ea, if_neg (by omega)] at hm
      rcases hcs with h | ⟨p, h1, _, h3⟩
      · have h0 : (0 : Int) ≤ v := hm.1
        omega
      · rw [h1] at hm
        exact h3 b (by omega) (by omega) hm
    · rw [if_neg ea] at hm
      by_cases eb : b = i
      · rw [if_pos eb] at hm
        rcases hcs with h | ⟨p, h1, _, h3⟩
        · have h0 : (0 : Int) ≤ v := hm.2.1
          omega
        · rw [h1] at hm
          exact h3 a ha ea hm.symm
      · rw [if_neg eb] at hm
        exact hN a ha b hb hm
theorem ba_ok {long : Int} (hT : Turn L E) (hP : CaP long L) (hN : NoMeet L) : ∀ {k : Nat}, k ≤ L.length → CaP long (ba long L E k) ∧ NoMeet (ba long L E k)
  | 0, _ => ⟨hP, hN⟩
  | k + 1, hk => by
    obtain ⟨h1, h2⟩ := ba_ok hT hP hN (k := k) (by omega)
    simp only [ba]
    split
    · exact set_ok h1 h2 (by rw [ba_len]; exact (hT.lt (by omega)).1)
    · exact ⟨h1, h2⟩
/-- Where those from k up to p have berths nothing changes. -/
theorem ba_still {long : Int} (hT : Turn L E) {k : Nat} : ∀ {d : Nat}, k + d ≤ L.length → (∀ q, k ≤ q → q < k + d → cAt (ca L (eN E q)) ≠ -1) → ba long L E (k + d) = ba long L E k
  | 0, _, _ => rfl
  | d + 1, hd, h => by
    have ih := ba_still (long := long) hT (k := k) (d := d) (by omega) (fun q h1 h2 => h q h1 (by omega))
    rw [show k + (d + 1) = (k + d) + 1 by omega]
    simp only [ba]
    rw [ba_at hT (by omega), if_neg (h (k + d) (by omega) (by omega)), ih]
/-- Who is still to be asked when the first k have been. -/
def CandP (L : List CallT) (E : List Int) (k i : Nat) : Prop := i < L.length ∧ cAt (ca L i) < 0 ∧ ∀ p, p < k → eN E p ≠ i
theorem cand_pick {long : Int} (hT : Turn L E) (hP : CaP long L) {k b : Nat} (hb : CandP L E k b) (hm : ∀ i, CandP L E k i → cFr (ca L b) ≤ cFr (ca L i) ∧ (i < b → cFr (ca L b) < cFr (ca L i))) : ∃ p, k ≤ p ∧ p < L.length ∧ eN E p = b ∧ (ba long L E p = ba long L E k) ∧ ∀ i, i < L.length → ((CandP L E k i ∧ i ≠ b) ↔ CandP L E (p + 1) i) := by
  obtain ⟨p, p1, p2⟩ := hT.has hb.1
  have hkp : k ≤ p := by
    refine Classical.byContradiction fun hn => ?_
    exact hb.2.2 p (by omega) p2
  have hst : ∀ q, k ≤ q → q < p → ¬ cAt (ca L (eN E q)) < 0 := fun q h1 h2 h3 => by
    have hq := hm (eN E q) ⟨(hT.lt (by omega)).1, h3, fun r hr => hT.ne (by omega) (by omega) (by omega)⟩
    have hbf := hT.bf h2 p1
    rw [p2] at hbf
    omega
  have hne1 : ∀ i, i < L.length → cAt (ca L i) = -1 ∨ 0 ≤ cAt (ca L i) := fun i hi => by have := (hP.2.2 i hi).2.1.2.2; omega
  refine ⟨p, hkp, p1, p2, ?_, fun i hi => ⟨?_, ?_⟩⟩
  · have := ba_still (long := long) hT (k := k) (d := p - k) (by omega) (fun q h1 h2 => by have := hst q h1 (by omega); omega)
    rwa [show k + (p - k) = p by omega] at this
  · rintro ⟨⟨c1, c2, c3⟩, hib⟩
    refine ⟨c1, c2, fun q hq e => ?_⟩
    by_cases h1 : q < k
    · exact c3 q h1 e
    · by_cases h2 : q = p
      · subst h2; exact hib (e.symm.trans p2)
      · have := hst q (by omega) (by omega)
        rw [e] at this
        exact this c2
  · rintro ⟨c1, c2, c3⟩
    exact ⟨⟨c1, c2, fun q hq => c3 q (by omega)⟩, fun e => c3 p (by omega) (p2.trans e.symm)⟩
theorem cand_none {long : Int} (hT : Turn L E) {k : Nat} (hk : k ≤ L.length) (h : ∀ i, ¬ CandP L E k i) : ba long L E L.length = ba long L E k := by
  have := ba_still (long := long) hT (k := k) (d := L.length - k) (by omega) (fun q h1 h2 e => by
    have hq := hT.lt (k := q) (by omega)
    exact h (eN E q) ⟨hq.1, by omega, fun r hr => hT.ne (by omega) (by omega) (by omega)⟩)
  rwa [show k + (L.length - k) = L.length by omega] at this
/-- What BerthAll tells. -/
def BaP (long : Int) (L M : List CallT) (b : Bool) : Prop := (clB long L = false ∧ M = [] ∧ b = false) ∨ (clB long L = true ∧ b = true ∧ ∃ E, Turn L E ∧ M = ba long L E L.length)
theorem BaP.one {long : Int} {M M' : List CallT} {b b' : Bool} (h : BaP long L M b) (h' : BaP long L M' b') : M = M' ∧ b = b' := by
  rcases h with ⟨h1, rfl, rfl⟩ | ⟨h1, rfl, E, h2, rfl⟩
  · rcases h' with ⟨k1, rfl, rfl⟩ | ⟨k1, _⟩
    · exact ⟨rfl, rfl⟩
    · rw [h1] at k1; cases k1
  · rcases h' with ⟨k1, _⟩ | ⟨k1, rfl, E', k2, rfl⟩
    · rw [h1] at k1; cases k1
    · rw [h2.one k2]; exact ⟨rfl, rfl⟩
end

end Go.Proofs.Ytogoknldhimgfaa
