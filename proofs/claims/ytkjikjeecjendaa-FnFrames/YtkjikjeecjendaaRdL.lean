/- Radios: settling in numbers; contracts of the program's coinsOk, ownCopy and ownRadios over radios, settleFirst. -/
import Derived.Test.YtkjikjeecjendaaRdI
import Derived.Test.YtkjikjeecjendaaCpK
namespace Go.Proofs.Ytkjikjeecjendaa
open Go.RowKit

/-- The radio at i takes the slot s. -/
def setSl (L : List Rad) (i : Nat) (s : Int) : List Rad := L.set i ((L.getD i default).1, s, (L.getD i default).2.2)
theorem setSl_len (L : List Rad) (i : Nat) (s : Int) : (setSl L i s).length = L.length := by simp [setSl]
theorem setSl_get (L : List Rad) (i : Nat) (s : Int) (r : Nat) (hi : i < L.length) : (setSl L i s).getD r default = if r = i then ((L.getD i default).1, s, (L.getD i default).2.2) else L.getD r default := by
  unfold setSl
  by_cases e : r = i
  · subst e; rw [if_pos rfl]; simp [List.getD, hi]
  · rw [if_neg e]; simp [List.getD, List.getElem?_set_ne (show i ≠ r by omega)]
theorem setSl_he (L : List Rad) (i : Nat) (s : Int) (r : Nat) (hi : i < L.length) : rHe (setSl L i s) r = rHe L r := by
  show ((setSl L i s).getD r default).2.2 = (L.getD r default).2.2
  rw [setSl_get L i s r hi]
  split
  · rename_i h; rw [h]
  · rfl
/-- What one coin does. -/
noncomputable def stepS (L : List Rad) (coin : Int) : Option (List Rad) :=
  match clashL L with
  | [] => none
  | c :: _ => if (chooseV L c coin).2 then some (setSl L c.toNat (chooseV L c coin).1) else none
theorem clashU_mem (L : List Rad) : ∀ i, ∀ c ∈ clashU L i, 0 ≤ c ∧ c < (i : Int) := by
  intro i
  induction i with
  | zero => intro c hc; simp [clashU] at hc
  | succ i ih =>
    intro c hc
    simp only [clashU, List.mem_append] at hc
    rcases hc with hc | hc
    · have := ih c hc; omega
    · split at hc
      · simp at hc; omega
      · simp at hc
theorem clashL_mem {L : List Rad} {c : Int} (h : c ∈ clashL L) : 0 ≤ c ∧ c < (L.length : Int) := by
  unfold clashL at h
  split at h
  · exact clashU_mem L _ c h
  · simp at h
theorem stepS_no {L : List Rad} {coin : Int} (h : (clashL L).length = 0) : stepS L coin = none := by
  unfold stepS
  rw [List.length_eq_zero_iff.1 h]
theorem stepS_yes {L : List Rad} {coin c : Int} (h : (clashL L).getD 0 0 = c) (hp : ¬ (clashL L).length = 0) : stepS L coin = if (chooseV L c coin).2 then some (setSl L c.toNat (chooseV L c coin).1) else none := by
  unfold stepS
  match hq : clashL L, hp with
  | [], hp => simp at hp
  | c' :: _, _ => rw [hq] at h; simp [List.getD] at h; rw [h]
theorem stepS_same {L L' : List Rad} {coin : Int} (h : stepS L coin = some L') : L'.length = L.length ∧ ∀ r, rHe L' r = rHe L r := by
  unfold stepS at h
  split at h
  · cases h
  · rename_i c cs hc
    split at h
    · cases h
      have hm := clashL_mem (L := L) (c := c) (by rw [hc]; simp)
      exact ⟨setSl_len _ _ _, fun r => setSl_he L _ _ r (by omega)⟩
    · cases h
/-- Coin upon coin: the radios then, and how many coins were used. -/
noncomputable def runS (L : List Rad) : List Int → List Rad × Nat
  | [] => (L, 0)
  | c :: C => match stepS L c with
    | none => (L, 0)
    | some L' => ((runS L' C).1, (runS L' C).2 + 1)
theorem runS_none {L : List Rad} {C : List Int} {u : Nat} (hu : u < C.length) (h : stepS L (C.getD u 0) = none) : runS L (C.drop u) = (L, 0) := by
  rw [List.drop_eq_getElem_cons hu, runS]
  rw [getD_lt hu] at h
  rw [h]
theorem runS_some {L L' : List Rad} {C : List Int} {u : Nat} (hu : u < C.length) (h : stepS L (C.getD u 0) = some L') : runS L (C.drop u) = ((runS L' (C.drop (u + 1))).1, (runS L' (C.drop (u + 1))).2 + 1) := by
  rw [List.drop_eq_getElem_cons hu, runS]
  rw [getD_lt hu] at h
  rw [h]
theorem runS_end {L : List Rad} {C : List Int} {u : Nat} (hu : C.length ≤ u) : runS L (C.drop u) = (L, 0) := by
  rw [List.drop_eq_nil_of_le hu, runS]
/-- How far the way has been gone. -/
structure Run (L : List Rad) (C : List Int) (K : List Rad) (u : Nat) : Prop where
  eq : runS L C = ((runS K (C.drop u)).1, (runS K (C.drop u)).2 + u)
  len : K.length = L.length
  he : ∀ r, rHe K r = rHe L r
theorem Run.start (L : List Rad) (C : List Int) : Run L C L 0 := ⟨by simp, rfl, fun _ => rfl⟩
theorem Run.step {L K K' : List Rad} {C : List Int} {u : Nat} (h : Run L C K u) (hu : u < C.length) (hs : stepS K (C.getD u 0) = some K') : Run L C K' (u + 1) := by
  obtain ⟨h1, h2⟩ := stepS_same hs
  refine ⟨?_, h1.trans h.len, fun r => (h2 r).trans (h.he r)⟩
  rw [h.eq, runS_some hu hs]
  simp only [Prod.mk.injEq, true_and]
  omega
theorem Run.done {L K : List Rad} {C : List Int} {u : Nat} (h : Run L C K u) (hd : runS K (C.drop u) = (K, 0)) : runS L C = (K, u) := by
  rw [h.eq, hd]
  simp

theorem recCells_ext {vs : List Value} {L : List Rad} {G : Nat → Nat} (hl : vs.length = L.length * 3) (h0 : ∀ r, r < L.length → vs[r * 3]? = some (.int .i64 (L.getD r default).1)) (h1 : ∀ r, r < L.length → vs[r * 3 + 1]? = some (.int .i64 (L.getD r default).2.1))
    (h2 : ∀ r, r < L.length → vs[r * 3 + 2]? = some (.slice (some ⟨G r, 0, none⟩) (L.getD r default).2.2.length (L.getD r default).2.2.length)) : vs = recCells 3 eRd (rdL L G) := by
  apply List.ext_getElem?
  intro q
  by_cases hq : q < L.length * 3
  · obtain ⟨r, j, hr, hj, rfl⟩ : ∃ r j, r < L.length ∧ j < 3 ∧ q = r * 3 + j := ⟨q / 3, q % 3, by omega, by omega, by omega⟩
    rw [recCells_get (by rw [rdL_len]; exact hr) hj, rdL_get hr]
    match j, hj with
    | 0, _ => exact h0 r hr
    | 1, _ => exact h1 r hr
    | 2, _ => exact h2 r hr
  · rw [List.getElem?_eq_none (by omega), List.getElem?_eq_none (by rw [recCells_length, rdL_len]; omega)]
theorem rec_at {L : List Rad} {G : Nat → Nat} {r j : Nat} (hr : r < L.length) (hj : j < 3) : (recCells 3 eRd (rdL L G))[r * 3 + j]? = some (eRd ((L.getD r default).1, (L.getD r default).2.1, (L.getD r default).2.2.length, G r) j) := by
  rw [recCells_get (by rw [rdL_len]; exact hr) hj, rdL_get hr]
theorem OwnRd.setSlot {w : World} {g : Nat} {G : Nat → Nat} {L : List Rad} (h : OwnRd w g G L) {i : Nat} (hi : i < L.length) (s : Int) : OwnRd (w.setCell ⟨g, i * 3 + 1, none⟩ (.int .i64 s)) g G (setSl L i s) := by
  have hs := h.1.set (i * 3 + 1) (.int .i64 s) (by rw [recCells_length, rdL_len]; omega)
  have hl := setSl_len L i s
  have e : (recCells 3 eRd (rdL L G)).set (i * 3 + 1) (.int .i64 s) = recCells 3 eRd (rdL (setSl L i s) G) := by
    refine recCells_ext (by rw [List.length_set, recCells_length, rdL_len, hl]) (fun r hr => ?_) (fun r hr => ?_) (fun r hr => ?_)
    · rw [hl] at hr
      have := rec_at (L := L) (G := G) (j := 0) hr (by omega)
      rw [List.getElem?_set_ne (by omega), setSl_get L i s r hi]
      rw [Nat.add_zero] at this
      rw [this]
      split
      · rename_i e; rw [e]; rfl
      · rfl
    · rw [hl] at hr
      have := rec_at (L := L) (G := G) (j := 1) hr (by omega)
      rw [setSl_get L i s r hi]
      by_cases e : r = i
      · subst e
        rw [List.getElem?_set_self (by rw [recCells_length, rdL_len]; omega), if_pos rfl]
      · rw [List.getElem?_set_ne (by omega), if_neg e, this]; rfl
    · rw [hl] at hr
      have := rec_at (L := L) (G := G) (j := 2) hr (by omega)
      rw [List.getElem?_set_ne (by omega), setSl_get L i s r hi, this]
      split
      · rename_i e; rw [e]; rfl
      · rfl
  rw [e] at hs
  refine ⟨hs, fun r hr => ?_, fun r q h1 h2 => h.2.2 r q h1 (by rw [hl] at h2; exact h2)⟩
  rw [hl] at hr
  obtain ⟨q1, q2⟩ := h.2.1 r hr
  refine ⟨q1, ?_⟩
  have he := setSl_he L i s r hi
  rw [show ((setSl L i s).getD r default).2.2 = (L.getD r default).2.2 from he]
  exact q2.other (a := ⟨g, i * 3 + 1, none⟩) (by simp only; omega) _

def coinsB (C : List Int) : Bool := decide (C.length ≤ 200) && C.all (fun x => decide (0 ≤ x))
theorem coinsB_len {C : List Int} (h : ¬ C.length ≤ 200) : coinsB C = false := by simp [coinsB, h]

set_option maxHeartbeats 1600000 in
theorem coinsOk_any (v : Value) (C : List Int) (w : World) (h : IntsIn w v C) :
    Calls Try.prog 63 #[v] w fun e w' => e = .returned (.bool (coinsB C)) ∧ w' = w := by
  obtain ⟨ao, cap, rfl, hl, hm, hc⟩ := h
  unfold maxLen at hm
  have HC := hide hc
  clear hc
  by_cases hn : (200 : Int) < C.length
  · have HF := hide (coinsB_len (C := C) (by omega))
    go_enter Try.func63, Try.ntmps63
    go_wp2
    go_ret
    exact ⟨ret_bool (unhide HF).symm, rfl⟩
  · go_enter Try.func63, Try.ntmps63
    go_wp2
    go_loopg [10] C.length (fun g i wr => wr = w ∧ ∃ k : Nat, k ≤ C.length ∧ g = C.length - k ∧ i = .int .i64 k ∧ Hid (∀ r, r < k → 0 ≤ C.getD r 0))
    case atStart => exact ⟨rfl, 0, Nat.zero_le _, rfl, rfl, fun r hr => by omega⟩
    case round =>
      obtain ⟨rfl, k, hk, rfl, rfl, HN⟩ := hrel
      by_cases hkn : k < C.length
      · obtain ⟨b, o, rfl, hcell⟩ := unhide HC k hkn
        have hki : (k : Int) < C.length := by omega
        by_cases hx : C.getD k 0 < 0
        · have HF : Hid (coinsB C = false) := by
            show _ = _
            unfold coinsB
            rw [all_false (p := fun x => decide (0 ≤ x)) hkn (decide_eq_false (show ¬ (0 ≤ C.getD k 0) by omega))]
            simp
          generalize C.getD k 0 = x at *
          clear HN
          go_wp2
          go_ret
          exact ⟨ret_bool (unhide HF).symm, rfl⟩
        · have HN' : Hid (∀ r, r < k + 1 → 0 ≤ C.getD r 0) := fun r hr => by
            by_cases e : r = k
            · rw [e]; omega
            · exact unhide HN r (by omega)
          generalize C.getD k 0 = x at *
          clear HN
          go_wp2
          go_roundg (C.length - (k + 1))
          case measure => omega
          case rel => exact ⟨rfl, k + 1, by omega, rfl, by go_num, HN'⟩
      · have HT : Hid (coinsB C = true) := by
          show _ = _
          unfold coinsB
          rw [all_true (p := fun x => decide (0 ≤ x)) (d := 0) (fun r hr => by rw [decide_eq_true_eq]; exact unhide HN r (by omega))]
          simp
          omega
        clear HN
        go_wp2
        go_ret
        exact ⟨ret_bool (unhide HT).symm, rfl⟩

end Go.Proofs.Ytkjikjeecjendaa
