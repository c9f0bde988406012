/- Contracts of both BerthAll. Laid together by wip/lay17.py. -/
import Derived.Test.YtogoknldhimgfaaQyZ
namespace Go.Proofs.Ytogoknldhimgfaa
open Go.RowKit

theorem eCall_at (x0 x1 x2 x3 x4 y : Int) : ∀ j', j' < 5 → j' ≠ 4 → eCall (x0, x1, x2, x3, y) j' = eCall (x0, x1, x2, x3, x4) j' := fun j' h1 h2 => by
  have : j' = 0 ∨ j' = 1 ∨ j' = 2 ∨ j' = 3 := by omega
  rcases this with e | e | e | e <;> subst e <;> rfl
/-- A call of a row of the call's own. -/
theorem own_call {w : World} {g i : Nat} {M : List CallT} (h : OwnV w g (recCells 5 eCall M)) (hi : i < M.length) {x0 x1 x2 x3 x4 : Int} (e : ca M i = (x0, x1, x2, x3, x4)) :
    w.cell? ⟨g, i * 5, none⟩ = some (.int .i64 x0) ∧ w.cell? ⟨g, i * 5 + 1, none⟩ = some (.int .i64 x1) ∧ w.cell? ⟨g, i * 5 + 2, none⟩ = some (.int .i64 x2) ∧ w.cell? ⟨g, i * 5 + 3, none⟩ = some (.int .i64 x3) ∧ w.cell? ⟨g, i * 5 + 4, none⟩ = some (.int .i64 x4) := by
  have e : M.getD i default = (x0, x1, x2, x3, x4) := e
  have f : ∀ j, j < 5 → w.cell? ⟨g, i * 5 + j, none⟩ = some (eCall (x0, x1, x2, x3, x4) j) := fun j hj => by rw [← e]; exact h.cell (recCells_get hi hj)
  exact ⟨f 0 (by omega), f 1 (by omega), f 2 (by omega), f 3 (by omega), f 4 (by omega)⟩
theorem own_setAt {w : World} {g i : Nat} {M : List CallT} (h : OwnV w g (recCells 5 eCall M)) (hi : i < M.length) {x0 x1 x2 x3 x4 : Int} (e : ca M i = (x0, x1, x2, x3, x4)) (y : Int) : OwnV (w.setCell ⟨g, i * 5 + 4, none⟩ (.int .i64 y)) g (recCells 5 eCall (M.set i (x0, x1, x2, x3, y))) := by
  have h2 := h.set (i * 5 + 4) (.int .i64 y) (by rw [recCells_length]; omega)
  have h3 := recG_set (n := 5) (enc := eCall) M (i := i) (j := 4) (by omega) hi (x0, x1, x2, x3, y) (fun j' h1 h2 => by
    have e : M.getD i default = (x0, x1, x2, x3, x4) := e
    rw [e]
    exact eCall_at _ _ _ _ _ _ j' h1 h2)
  rw [← h3]
  exact h2

set_option maxRecDepth 100000 in
set_option maxHeartbeats 8000000 in
theorem implBerthAll_any (v : Value) (long : Int) (L : List CallT) (w : World) (h : RCall w v L) :
    Calls Try.prog 16 #[.int .i64 long, v] w (BaAns w (baV long L).1 (baV long L).2) := by
  have Q1 := hide (implClear17_any v long L w h)
  have HR := hide fun V (hV : Below w.heap.size w V) => h.below hV
  obtain ⟨ao, cap, rfl, hl, hmx, -⟩ := h
  unfold maxLen at hmx
  cases hb : clB long L with
  | false =>
    have HF := hide (baV_no hb)
    rw [hb] at Q1
    generalize baV long L = V at *
    go_enter Try.func16, Try.ntmps16
    go_wp2_with fail
    refine (unhide Q1).mono ?_
    rintro e w1 ⟨rfl, hbb⟩
    have HW := hide hbb
    clear hbb Q1 hb
    go_wp2
    refine bodyPost_ret (v := .tuple #[.slice none 0 0, .bool false]) (by simp [results, Try.results16, go_sem]) rfl ?_
    show BaAns _ _ _ _ _
    rw [unhide HF]
    exact ⟨none, 0, 0, rfl, ⟨none, 0, rfl, Nat.le_refl _, Nat.zero_le _, fun h => absurd rfl h⟩, unhide HW⟩
  | true =>
  have hPN := clB_iff.1 hb
  have HPN := hide hPN
  have hN := hPN.1.1
  have h24 := hPN.1.2.1
  have HBV := hide fun E (hT : Turn L E) => baV_yes hb hT
  rw [hb] at Q1
  clear hPN hb
  obtain ⟨N, rfl⟩ : ∃ N : Nat, long = N := ⟨long.toNat, by omega⟩
  have Q2 := hide fun V (hV : Below w.heap.size w V) => ownCopyCall_any ao L.length cap L V (unhide HR V hV) (by omega)
  have Q3 := hide fun g V (hV : OwnV V g (recCells 5 eCall L)) => inTurn_any (some ⟨g, 0, none⟩) L.length L.length L V (OwnV.recsIn hV (Nat.le_refl _) (by unfold maxLen; omega)) h24
  generalize baV (N : Int) L = VV at *
  go_enter Try.func16, Try.ntmps16
  go_wp2_with fail
  refine (unhide Q1).mono ?_
  rintro e w1 ⟨rfl, hbb⟩
  have HW := hide hbb
  clear hbb Q1
  go_wp2_with fail
  refine (unhide Q2 _ (unhide HW)).mono ?_
  rintro e w2 ⟨rfl, ho, hbb⟩
  have hg0 := (unhide HW).size
  obtain ⟨go, ego⟩ : ∃ g, g = w1.heap.size := ⟨_, rfl⟩
  rw [← ego] at ho ⊢
  have HO := hide ho
  have hgo := ho.lt
  have hgw : w.heap.size ≤ go := by omega
  replace HW := hide (Below.step (unhide HW) hbb)
  clear ho hbb ego hg0 Q2
  go_wp2_with fail
  refine (unhide Q3 _ _ (unhide HO)).mono ?_
  rintro e w3 ⟨ge, E, rfl, hge, hoE, hT, hbb⟩
  have hgg : go < ge := by omega
  have HE := hide hoE
  have HT := hide hT
  have HEL := hide hT.len
  have HO0 : Hid (OwnV w3 go (recCells 5 eCall (ba (N : Int) L E 0))) := (unhide HO).step hbb
  replace HW := hide (Below.step (unhide HW) hbb)
  replace HBV := hide (unhide HBV E hT)
  clear hbb Q3 hoE hT HO hge hgo
  generalize hw9 : w3 = w9 at *
  clear hw9
  go_wp2
  go_loopg [18] L.length (fun g kv wr => ∃ k : Nat, k ≤ L.length ∧ g = L.length - k ∧ kv = .int .i64 (k : Int) ∧ Hid (OwnV wr go (recCells 5 eCall (ba (N : Int) L E k))) ∧ Hid (OwnV wr ge (ints E)) ∧ Hid (Below w.heap.size w wr))
  case atStart => exact ⟨0, Nat.zero_le _, rfl, rfl, HO0, HE, HW⟩
  case round =>
    clear HO0 HE HW
    obtain ⟨k, hk, rfl, rfl, HO, HE, HW⟩ := hrel
    have hbl := ba_len (N : Int) L E k
    by_cases hkn : k < L.length
    · obtain ⟨hi, ei⟩ := (unhide HT).lt hkn
      have ck := (unhide HE).cell (ints_atA (M := E) (p := k) (by rw [unhide HEL]; exact hkn))
      rw [ei] at ck
      obtain ⟨hP2, -⟩ := ba_ok (unhide HT) (unhide HPN).1 (unhide HPN).2 hk
      have HNX : Hid (ba (N : Int) L E (k + 1) = if cAt (ca (ba (N : Int) L E k) (eN E k)) = -1 then (ba (N : Int) L E k).set (eN E k) (setAt (ca (ba (N : Int) L E k) (eN E k)) (lbV (N : Int) (ba (N : Int) L E k) (ca (ba (N : Int) L E k) (eN E k)))) else ba (N : Int) L E k) := rfl
      generalize ba (N : Int) L E k = M at *
      generalize eN E k = i at *
      clear ei
      have hiM : i < M.length := by omega
      have hcs := (hP2.2.2 i hiM).2.1.1
      have HP2 := hide hP2
      obtain ⟨⟨x0, x1, x2, x3, x4⟩, ex⟩ : ∃ x, x = ca M i := ⟨_, rfl⟩
      have ex := ex.symm
      rw [ex] at HNX hcs
      obtain ⟨c0, c1, c2, c3, c4⟩ := own_call (unhide HO) hiM ex
      have hx1 : 1 ≤ x1 ∧ x1 ≤ 1000 := hcs
      have hki : (k : Int) < L.length := by omega
      have hii : (i : Int) < L.length := by omega
      have fz := (unhide HO).frozen (i * 5 + 4)
      have HEX := hide ex
      have HBL := hide hbl
      clear ex hP2 hcs hbl
      by_cases h4 : x4 = -1
      · have d4 : (x4 == -1) = true := by simp [h4]
        replace HNX : Hid (ba (N : Int) L E (k + 1) = M.set i (x0, x1, x2, x3, lbV (N : Int) M (x0, x1, x2, x3, x4))) := by show _ = _; rw [unhide HNX, if_pos (show cAt (x0, x1, x2, x3, x4) = -1 from h4)]; rfl
        have Q4 := hide (leastBerth_any N (.slice (some ⟨go, 0, none⟩) L.length L.length) M x0 x1 x2 x3 x4 wr (by rw [← unhide HBL]; exact OwnV.recsIn (unhide HO) (Nat.le_refl _) (by have := unhide HBL; unfold maxLen; omega)) (unhide HP2) hx1)
        generalize lbV (N : Int) M (x0, x1, x2, x3, x4) = z at *
        clear h4
        unfold vCall at Q4
        go_wp2_with fail
        refine (unhide Q4).mono ?_
        rintro e w4 ⟨rfl, hbb⟩
        have HO1 := hide ((unhide HO).step hbb)
        have HE1 := hide ((unhide HE).step hbb)
        have HW1 := hide (Below.step (unhide HW) hbb)
        clear hbb Q4 c0 c1 c2 c3 c4 fz HO HE HW
        obtain ⟨-, -, -, -, c4⟩ := own_call (unhide HO1) hiM (unhide HEX)
        have fz := (unhide HO1).frozen (i * 5 + 4)
        have HO2 := hide (own_setAt (unhide HO1) hiM (unhide HEX) z)
        rw [← unhide HNX] at HO2
        have HE2 := hide ((unhide HE1).other (a := ⟨go, i * 5 + 4, none⟩) (by show ge ≠ go; omega) (.int .i64 z))
        have HW2 := hide ((unhide HW1).setCell (p := ⟨go, i * 5 + 4, none⟩) hgw (.int .i64 z))
        clear HO1 HE1 HW1
        go_wp2
        go_roundg (L.length - (k + 1))
        case measure => omega
        case rel => exact ⟨k + 1, by omega, rfl, by go_num, HO2, HE2, HW2⟩
      · have d4 : (x4 == -1) = false := by simp [h4]
        replace HNX : Hid (ba (N : Int) L E (k + 1) = M) := by show _ = _; rw [unhide HNX, if_neg (show ¬ cAt (x0, x1, x2, x3, x4) = -1 from h4)]
        clear h4
        go_wp2
        go_roundg (L.length - (k + 1))
        case measure => omega
        case rel => exact ⟨k + 1, by omega, rfl, by go_num, by rw [unhide HNX]; exact HO, HE, HW⟩
    · obtain rfl : k = L.length := by omega
      generalize hM : ba (N : Int) L E L.length = M at *
      clear hM
      go_wp2
      refine bodyPost_ret (v := .tuple #[.slice (some ⟨go, 0, none⟩) L.length L.length, .bool true]) (by simp [results, Try.results16, go_sem]) rfl ?_
      show BaAns _ _ _ _ _
      rw [unhide HBV]
      refine ⟨_, _, _, rfl, ?_, unhide HW⟩
      rw [← hbl]
      exact ownR_copy (unhide HO) hgw (by omega)

end Go.Proofs.Ytogoknldhimgfaa

namespace Go.Proofs.Ytogoknldhimgfaa
open Go.RowKit

/-- A row of n bools. -/
def bo (n : Nat) (H : Nat → Bool) : List Value := (List.range n).map (fun i => Value.bool (H i))
theorem bo_len (n : Nat) (H : Nat → Bool) : (bo n H).length = n := by simp [bo]
theorem bo_at {n i : Nat} {H : Nat → Bool} (h : i < n) : (bo n H)[i]? = some (.bool (H i)) := by simp [bo, h]
theorem bo_set {n k : Nat} {H : Nat → Bool} (b : Bool) (h : k < n) : (bo n H).set k (.bool b) = bo n (fun i => if i = k then b else H i) := by
  apply List.ext_getElem?
  intro i
  by_cases hi : i < n
  · rw [List.getElem?_set, bo_at (H := fun i => if i = k then b else H i) hi]
    by_cases e : k = i
    · subst e; rw [if_pos rfl, if_pos (by rw [bo_len]; exact h), if_pos rfl]
    · rw [if_neg e, bo_at hi, if_neg (fun e' => e e'.symm)]
  · rw [List.getElem?_eq_none (by rw [List.length_set, bo_len]; omega), List.getElem?_eq_none (by rw [bo_len]; omega)]
theorem bo_made' (n : Nat) : (madeCells #[Value.bool false] n).toList = bo n (fun _ => false) := by
  unfold bo madeCells
  simp [Nat.mod_one]
theorem onRow17 {B : Nat} {w W w' : World} {ao : Option Addr} {m cap : Nat} {L : List CallT} (hW : Below B w W) (h : RowB 31 5 eCall B W ao m cap L) (hB : B ≤ W.heap.size) (hK : Kept (fun k => ao = some ⟨k, 0, none⟩) W w') : Below B w w' :=
  hW.trans (hK.below hB (rowB_blk h (by decide)))
theorem OwnRU.ownR {α : Type} [Inhabited α] {n : Nat} {enc : α → Nat → Value} {B U : Nat} {w : World} {v : Value} {L : List α} (h : OwnRU n enc B U w v L) : OwnR n enc B w v L := by
  obtain ⟨ao, cap, rfl, h1, h2, h3⟩ := h
  refine ⟨ao, cap, rfl, h1, h2, fun hne => ?_⟩
  obtain ⟨g, e, hg, _, ho⟩ := h3 hne
  exact ⟨g, e, hg, ho⟩
/-- Who is a candidate, by the row asked. -/
def CdH (L : List CallT) (H : Nat → Bool) (i : Nat) : Prop := i < L.length ∧ cAt (ca L i) < 0 ∧ H i = false
/-- The best of the first t. -/
def BstP (L : List CallT) (H : Nat → Bool) (t : Nat) (z : Int) : Prop := (z = -1 ∧ ∀ i, i < t → ¬ CdH L H i) ∨ ∃ b : Nat, z = (b : Int) ∧ b < t ∧ CdH L H b ∧ ∀ i, i < t → CdH L H i → cFr (ca L b) ≤ cFr (ca L i) ∧ (i < b → cFr (ca L b) < cFr (ca L i))
theorem BstP.skip {L : List CallT} {H : Nat → Bool} {t : Nat} {z : Int} (h : BstP L H t z) (hn : ¬ CdH L H t) : BstP L H (t + 1) z := by
  rcases h with ⟨h1, h2⟩ | ⟨b, h1, h2, h3, h4⟩
  · refine Or.inl ⟨h1, fun i hi hc => ?_⟩
    by_cases e : i = t
    · subst e; exact hn hc
    · exact h2 i (by omega) hc
  · refine Or.inr ⟨b, h1, by omega, h3, fun i hi hc => ?_⟩
    by_cases e : i = t
    · subst e; exact absurd hc hn
    · exact h4 i (by omega) hc
theorem BstP.first {L : List CallT} {H : Nat → Bool} {t : Nat} (h : ∀ i, i < t → ¬ CdH L H i) (hc : CdH L H t) : BstP L H (t + 1) (t : Int) := by
  refine Or.inr ⟨t, rfl, by omega, hc, fun i hi hci => ?_⟩
  by_cases e : i = t
  · subst e; exact ⟨Int.le_refl _, fun h => by omega⟩
  · exact absurd hci (h i (by omega))
theorem BstP.new {L : List CallT} {H : Nat → Bool} {t b : Nat} (h4 : ∀ i, i < t → CdH L H i → cFr (ca L b) ≤ cFr (ca L i) ∧ (i < b → cFr (ca L b) < cFr (ca L i))) (hc : CdH L H t) (hl : cFr (ca L t) < cFr (ca L b)) : BstP L H (t + 1) (t : Int) := by
  refine Or.inr ⟨t, rfl, by omega, hc, fun i hi hci => ?_⟩
  by_cases e : i = t
  · subst e; exact ⟨Int.le_refl _, fun h => by omega⟩
  · have := h4 i (by omega) hci
    omega
theorem BstP.old {L : List CallT} {H : Nat → Bool} {t b : Nat} (hb : b < t) (h3 : CdH L H b) (h4 : ∀ i, i < t → CdH L H i → cFr (ca L b) ≤ cFr (ca L i) ∧ (i < b → cFr (ca L b) < cFr (ca L i))) (hl : ¬ cFr (ca L t) < cFr (ca L b)) : BstP L H (t + 1) (b : Int) := by
  refine Or.inr ⟨b, rfl, by omega, h3, fun i hi hci => ?_⟩
  by_cases e : i = t
  · subst e; exact ⟨by omega, fun h => by omega⟩
  · exact h4 i (by omega) hci
theorem set_self {M : List CallT} {b : Nat} (hb : b < M.length) : M.set b (ca M b) = M := by
  rw [show ca M b = M[b] from getD_lt hb]
  exact List.set_getElem_self hb
/-- The next one is asked. -/
theorem ba_pick {long : Int} {L : List CallT} {E : List Int} {H : Nat → Bool} {k b : Nat} (hT : Turn L E) (hP : CaP long L) (hC : ∀ i, CandP L E k i ↔ CdH L H i) (hb : CdH L H b) (hm : ∀ i, CdH L H i → cFr (ca L b) ≤ cFr (ca L i) ∧ (i < b → cFr (ca L b) < cFr (ca L i))) :
    ∃ k', k < k' ∧ k' ≤ L.length ∧ cAt (ca (ba long L E k) b) = -1 ∧ ba long L E k' = (ba long L E k).set b (setAt (ca (ba long L E k) b) (lbV long (ba long L E k) (ca (ba long L E k) b))) ∧ ∀ i, CandP L E k' i ↔ CdH L (fun i => if i = b then true else H i) i := by
  obtain ⟨p, p1, p2, p3, p4, p5⟩ := cand_pick (long := long) hT hP ((hC b).2 hb) (fun i hi => hm i ((hC i).1 hi))
  have e1 : cAt (ca (ba long L E k) b) = -1 := by
    rw [← p4, ← p3, ba_at hT p2, p3]
    have h1 := (hP.2.2 b hb.1).2.1.2.2
    have h2 := hb.2.1
    omega
  refine ⟨p + 1, by omega, by omega, e1, ?_, fun i => ?_⟩
  · have e2 : ba long L E (p + 1) = if cAt (ca (ba long L E p) (eN E p)) = -1 then (ba long L E p).set (eN E p) (setAt (ca (ba long L E p) (eN E p)) (lbV long (ba long L E p) (ca (ba long L E p) (eN E p)))) else ba long L E p := rfl
    rw [e2, p4, p3, if_pos e1]
  · constructor
    · intro h
      have h1 := (p5 i h.1).2 h
      have h2 := (hC i).1 h1.1
      exact ⟨h2.1, h2.2.1, (if_neg h1.2).trans h2.2.2⟩
    · intro h
      have hne : i ≠ b := fun e => by have h9 : (if i = b then true else H i) = false := h.2.2; rw [if_pos e] at h9; cases h9
      have h3 : H i = false := by have h9 : (if i = b then true else H i) = false := h.2.2; rw [if_neg hne] at h9; exact h9
      exact (p5 i h.1).1 ⟨(hC i).2 ⟨h.1, h.2.1, h3⟩, hne⟩

end Go.Proofs.Ytogoknldhimgfaa

namespace Go.Proofs.Ytogoknldhimgfaa
open Go.RowKit

theorem Try.infoBool17 : (Try.prog.info? 4).map (fun i => (i.zero, i.size, i.bytes)) = some (some (Value.bool false), 1, 1) := by kernel_rfl

set_option maxRecDepth 100000 in
set_option maxHeartbeats 8000000 in
theorem specBerthAll_any (v : Value) (long : Int) (L : List CallT) (w : World) (h : RCall w v L) :
    Calls Try.prog 32 #[.int .i64 long, v] w (BaAns w (baV long L).1 (baV long L).2) := by
  have Q1 := hide (specClear17_any v long L w h)
  have HR := hide fun V (hV : Below w.heap.size w V) => h.below hV
  obtain ⟨ao, cap, rfl, hl, hmx, -⟩ := h
  unfold maxLen at hmx
  cases hb : clB long L with
  | false =>
    have HF := hide (baV_no hb)
    rw [hb] at Q1
    generalize baV long L = V at *
    go_enter Try.func32, Try.ntmps32
    go_wp2_with fail
    refine (unhide Q1).mono ?_
    rintro e w1 ⟨rfl, hbb⟩
    have HW := hide (Below.step hbb (Below.alloc1 w1 (.cells #[] 31)))
    clear hbb Q1 hb
    go_wp2
    refine bodyPost_ret (v := .tuple #[.slice (some ⟨w1.heap.size, 0, none⟩) 0 0, .bool false]) (by simp [results, Try.results32, go_sem]) rfl ?_
    show BaAns _ _ _ _ _
    rw [unhide HF]
    exact ⟨_, 0, 0, rfl, ⟨_, 0, rfl, Nat.le_refl _, Nat.zero_le _, fun h => absurd rfl h⟩, unhide HW⟩
  | true =>
  have hPN := clB_iff.1 hb
  have HPN := hide hPN
  have hN := hPN.1.1
  have h24 := hPN.1.2.1
  obtain ⟨E, hT⟩ := turn_ex L
  have HT := hide hT
  have HBV := hide (baV_yes hb hT)
  rw [hb] at Q1
  clear hPN hb hT
  obtain ⟨N, rfl⟩ : ∃ N : Nat, long = N := ⟨long.toNat, by omega⟩
  have hmk := run_make_row' (P := Try.prog) 99 4 (.bool false) 1 Try.underlying99 Try.infoBool17 rfl .i64 .i64 L.length (by omega) (by omega)
  generalize baV (N : Int) L = VV at *
  go_enter Try.func32, Try.ntmps32
  go_wp2_with fail
  refine (unhide Q1).mono ?_
  rintro e w1 ⟨rfl, hbb⟩
  have hA := Below.alloc1 w1 (.cells #[] 31)
  have HW0 := hide (Below.step hbb hA)
  have hws0 := (unhide HW0).size
  have HN := hide (rowB_new 31 5 eCall w1 w.heap.size hbb.size)
  have HRL0 := hide (unhide HR _ (unhide HW0))
  clear hbb Q1 hA
  go_upto_region 4 with (at_builtin; go_must (refine wpList_appAll tyCall _ rfl _ _ rfl w.heap.size (some ⟨w1.heap.size, 0, none⟩) 0 0 [] rfl (unhide HN) hws0 (by omega) ao L.length cap L rfl (unhide HRL0) (by omega) ?_); intro sa sc wa hL hK; have HO0 : Hid (RowB 31 5 eCall w.heap.size wa sa (0 + L.length) sc L) := hL; have HW := hide (onRow17 (unhide HW0) (unhide HN) hws0 hK); clear hL hK)
  rw [Nat.zero_add] at HO0
  clear HN HRL0 HW0 hws0
  have HO1 := hide ((unhide HO0).uptoR (by decide))
  clear HO0
  have hA := Below.alloc1 wa (.cells (madeCells #[Value.bool false] L.length) 4)
  have HA0 : Hid (OwnV (wa.alloc (.cells (madeCells #[Value.bool false] L.length) 4)) wa.heap.size (bo L.length (fun _ => false))) := by
    show OwnV _ _ _
    rw [← bo_made']
    exact ownV_alloc wa _ _
  have HO2 := hide ((unhide HO1).below hA)
  have HW2 := hide (Below.step (unhide HW) hA)
  obtain ⟨ga, ega⟩ : ∃ g, g = wa.heap.size := ⟨_, rfl⟩
  have hga := (unhide HW).size
  go_wp2
  clear hmk
  rw [← ega] at HA0 HO2 hga ⊢
  generalize wa.alloc (.cells (madeCells #[Value.bool false] L.length) 4) = w9 at *
  clear HO1 HW hA ega
  have hcap : L.length ≤ sc ∧ sc ≤ 9223372036854775807 := by
    obtain ⟨ao', cap', e', h1, h2, -⟩ := unhide HO2
    simp only [Value.slice.injEq] at e'
    obtain ⟨-, -, rfl⟩ := e'
    unfold maxLen at h2
    omega
  go_loopg [8] L.length (fun g bv wr => ∃ (k : Nat) (H : Nat → Bool), k ≤ L.length ∧ g = L.length - k ∧ bv = bv ∧ Hid (∀ i, CandP L E k i ↔ CdH L H i) ∧ Hid (OwnRU 5 eCall w.heap.size ga wr (.slice sa L.length sc) (ba (N : Int) L E k)) ∧ Hid (OwnV wr ga (bo L.length H)) ∧ Hid (Below w.heap.size w wr))
  case atStart => exact ⟨0, fun _ => false, Nat.zero_le _, rfl, rfl, fun i => ⟨fun h => ⟨h.1, h.2.1, rfl⟩, fun h => ⟨h.1, h.2.1, fun p hp => by omega⟩⟩, HO2, HA0, HW2⟩
  case round =>
    clear HO2 HA0 HW2
    obtain ⟨k, H, hk, rfl, -, HC, HO, HA, HW⟩ := hrel
    have HMF : Hid (∀ i, ∃ a, ca (ba (N : Int) L E k) i = setAt (ca L i) a) := ba_like (unhide HT) hk
    have HML := hide (ba_len (N : Int) L E k)
    have HOK := hide (ba_ok (unhide HT) (unhide HPN).1 (unhide HPN).2 hk)
    have HPK := hide fun b h1 h2 => ba_pick (b := b) (unhide HT) (unhide HPN).1 (unhide HC) h1 h2
    have HNN := hide fun h => cand_none (long := (N : Int)) (unhide HT) hk h
    generalize ba (N : Int) L E k = M at *
    generalize hwo : wr = wo at *
    clear hwo
    go_wp2
    go_loopg [8, 9] L.length (fun g bv iv wr => ∃ (t : Nat) (z : Int), t ≤ L.length ∧ g = L.length - t ∧ iv = .int .i64 (t : Int) ∧ bv = .int .i64 z ∧ Hid (BstP L H t z) ∧ Hid (OwnRU 5 eCall w.heap.size ga wr (.slice sa L.length sc) M) ∧ Hid (OwnV wr ga (bo L.length H)) ∧ Hid (Below w.heap.size w wr))
    case atStart => exact ⟨0, -1, Nat.zero_le _, rfl, rfl, rfl, Or.inl ⟨rfl, fun i hi => by omega⟩, HO, HA, HW⟩
    case round =>
      clear HO HA HW
      obtain ⟨t, z, ht, rfl, rfl, rfl, HB, HO, HA, HW⟩ := hrel
      by_cases htn : t < L.length
      · have hti : (t : Int) < L.length := by omega
        have gsome := gr_some wr
        obtain ⟨ao', cap', e', -, -, hcc⟩ := unhide HR wr (unhide HW)
        simp only [Value.slice.injEq] at e'
        obtain ⟨rfl, -, rfl⟩ := e'
        obtain ⟨b, o, x0, x1, x2, x3, x4, rfl, g0, g1, g2, g3, g4, EX⟩ := recCallAt hcc htn
        have ex : ca L t = (x0, x1, x2, x3, x4) := unhide EX
        obtain ⟨a', c', e', -, -, hne⟩ := unhide HO
        simp only [Value.slice.injEq] at e'
        obtain ⟨rfl, -, rfl⟩ := e'
        obtain ⟨go, rfl, hgo, hgo2, hoM⟩ := hne (fun e => by have h9 := unhide HML; rw [e] at h9; simp at h9; omega)
        have htM : t < M.length := by have := unhide HML; omega
        obtain ⟨a9, ea9⟩ := unhide HMF t
        rw [ex] at ea9
        replace ea9 : ca M t = (x0, x1, x2, x3, a9) := ea9
        obtain ⟨m0, m1, m2, m3, m4⟩ := own_call hoM htM ea9
        have hat := (unhide HA).cell (bo_at (H := H) htn)
        have r4 := fun x : Gr wr => gr_cell g4 x
        have s2 := fun x : Gr wr => gr_cell m2 x
        have u1 := fun x : Gr wr => gr_cell hat x
        have HCT : Hid (CdH L H t ↔ x4 < 0 ∧ H t = false) := by
          show _ ↔ _
          unfold CdH
          rw [ex]
          exact ⟨fun h => h.2, fun h => ⟨htn, h⟩⟩
        have HFT : Hid (cFr (ca L t) = x2) := by show _ = _; rw [ex]
        clear EX ex hcc g0 g1 g2 g3 g4 hne m0 m1 m2 m3 m4 hat ea9 a9
        by_cases h4 : x4 < 0
        case neg =>
          have d4 : decide (x4 < 0) = false := decide_eq_false h4
          have HBS := hide ((unhide HB).skip (fun h => h4 ((unhide HCT).1 h).1))
          clear h4 HCT HB hoM
          go_wp2
          refine wp_region_grown (by kernel_rfl) (by kernel_rfl) ?_
          repeat (go_big_quiet_step (fail))
          refine wpQuiet_nil ?_
          intro w5 hw5
          obtain ⟨z', hz⟩ := hw5
          have hb1 : Below wr.heap.size wr w5 := hz ▸ z'.ok
          have HW1 := hide (Below.step (unhide HW) hb1)
          have HO1 := hide ((unhide HO).below hb1)
          have HA1 := hide ((unhide HA).step hb1)
          clear hz hb1 z' gsome r4 s2 u1
          go_wp2
          go_roundg (L.length - (t + 1))
          case measure => omega
          case rel => exact ⟨t + 1, _, by omega, rfl, by go_num, rfl, HBS, HO1, HA1, HW1⟩
        have d4 : decide (x4 < 0) = true := decide_eq_true h4
        cases hH : H t with
        | true =>
          have HBS := hide ((unhide HB).skip (fun h => by have := ((unhide HCT).1 h).2; rw [hH] at this; cases this))
          rw [hH] at u1
          clear h4 HCT HB hoM hH
          go_wp2
          refine wp_region_grown (by kernel_rfl) (by kernel_rfl) ?_
          repeat (go_big_quiet_step (fail))
          refine wpQuiet_nil ?_
          intro w5 hw5
          obtain ⟨z', hz⟩ := hw5
          have hb1 : Below wr.heap.size wr w5 := hz ▸ z'.ok
          have HW1 := hide (Below.step (unhide HW) hb1)
          have HO1 := hide ((unhide HO).below hb1)
          have HA1 := hide ((unhide HA).step hb1)
          clear hz hb1 z' gsome r4 s2 u1
          go_wp2
          go_roundg (L.length - (t + 1))
          case measure => omega
          case rel => exact ⟨t + 1, _, by omega, rfl, by go_num, rfl, HBS, HO1, HA1, HW1⟩
        | false =>
        rw [hH] at u1
        have HCD := hide ((unhide HCT).2 ⟨h4, hH⟩)
        clear h4 hH HCT
        rcases unhide HB with ⟨rfl, hnone⟩ | ⟨q, rfl, hq, hcq, hmin⟩
        · have HBS := hide (BstP.first hnone (unhide HCD))
          clear hnone HB hoM
          go_wp2
          refine wp_region_grown (by kernel_rfl) (by kernel_rfl) ?_
          repeat (go_big_quiet_step (fail))
          refine wpQuiet_nil ?_
          intro w5 hw5
          obtain ⟨z', hz⟩ := hw5
          have hb1 : Below wr.heap.size wr w5 := hz ▸ z'.ok
          have HW1 := hide (Below.step (unhide HW) hb1)
          have HO1 := hide ((unhide HO).below hb1)
          have HA1 := hide ((unhide HA).step hb1)
          clear hz hb1 z' gsome r4 s2 u1
          go_wp2
          go_roundg (L.length - (t + 1))
          case measure => omega
          case rel => exact ⟨t + 1, _, by omega, rfl, by go_num, rfl, HBS, HO1, HA1, HW1⟩
        · have hqi : (q : Int) < L.length := by omega
          have hqM : q < M.length := by have := unhide HML; omega
          obtain ⟨a8, ea8⟩ := unhide HMF q
          obtain ⟨⟨y0, y1, y2, y3, y4⟩, ey⟩ : ∃ y, y = ca L q := ⟨_, rfl⟩
          rw [← ey] at ea8
          replace ea8 : ca M q = (y0, y1, y2, y3, a8) := ea8
          obtain ⟨m0, m1, m2, m3, m4⟩ := own_call hoM hqM ea8
          have s3 := fun x : Gr wr => gr_cell m2 x
          have HFQ : Hid (cFr (ca L q) = y2) := by show _ = _; rw [← ey]
          have HMN := hide hmin
          have HCQ := hide hcq
          have dq : decide ((q : Int) < 0) = false := by simp
          clear m0 m1 m2 m3 m4 ea8 ey hmin hcq HB hoM
          by_cases hlt : x2 < y2
          · have d2 : decide (x2 < y2) = true := decide_eq_true hlt
            have HBS := hide (BstP.new (b := q) (unhide HMN) (unhide HCD) (by rw [unhide HFT, unhide HFQ]; exact hlt))
            clear hlt
            go_wp2
            refine wp_region_grown (by kernel_rfl) (by kernel_rfl) ?_
            repeat (go_big_quiet_step (fail))
            refine wpQuiet_nil ?_
            intro w5 hw5
            obtain ⟨z', hz⟩ := hw5
            have hb1 : Below wr.heap.size wr w5 := hz ▸ z'.ok
            have HW1 := hide (Below.step (unhide HW) hb1)
            have HO1 := hide ((unhide HO).below hb1)
            have HA1 := hide ((unhide HA).step hb1)
            clear hz hb1 z' gsome r4 s2 u1 s3
            go_wp2
            go_roundg (L.length - (t + 1))
            case measure => omega
            case rel => exact ⟨t + 1, _, by omega, rfl, by go_num, rfl, HBS, HO1, HA1, HW1⟩
          · have d2 : decide (x2 < y2) = false := decide_eq_false hlt
            have HBS := hide (BstP.old hq (unhide HCQ) (unhide HMN) (by rw [unhide HFT, unhide HFQ]; exact hlt))
            clear hlt
            go_wp2
            refine wp_region_grown (by kernel_rfl) (by kernel_rfl) ?_
            repeat (go_big_quiet_step (fail))
            refine wpQuiet_nil ?_
            intro w5 hw5
            obtain ⟨z', hz⟩ := hw5
            have hb1 : Below wr.heap.size wr w5 := hz ▸ z'.ok
            have HW1 := hide (Below.step (unhide HW) hb1)
            have HO1 := hide ((unhide HO).below hb1)
            have HA1 := hide ((unhide HA).step hb1)
            clear hz hb1 z' gsome r4 s2 u1 s3
            go_wp2
            go_roundg (L.length - (t + 1))
            case measure => omega
            case rel => exact ⟨t + 1, _, by omega, rfl, by go_num, rfl, HBS, HO1, HA1, HW1⟩
      · obtain rfl : t = L.length := by omega
        rcases unhide HB with ⟨rfl, hnone⟩ | ⟨q, rfl, hq, hcq, hmin⟩
        · have HFN := hide (unhide HNN (fun i hc => hnone i hc.1 ((unhide HC i).1 hc)))
          clear hnone
          go_wp2
          refine bodyPost_ret (v := .tuple #[.slice sa L.length sc, .bool true]) (by simp [results, Try.results32, go_sem]) rfl ?_
          show BaAns _ _ _ _ _
          rw [unhide HBV]
          refine ⟨_, _, _, rfl, ?_, unhide HW⟩
          show OwnR 5 eCall w.heap.size _ _ (ba (N : Int) L E L.length)
          rw [unhide HFN]
          exact (unhide HO).ownR
        · obtain ⟨k', hk1, hk2, eAt, eBa, hC'⟩ := unhide HPK q hcq (fun i hi => hmin i hi.1 hi)
          have hqi : (q : Int) < L.length := by omega
          have hqM : q < M.length := by have := unhide HML; omega
          obtain ⟨a', c', e', hz1, hz2, hne⟩ := unhide HO
          simp only [Value.slice.injEq] at e'
          obtain ⟨rfl, -, rfl⟩ := e'
          obtain ⟨go, rfl, hgo, hgo2, hoM⟩ := hne (fun e => by rw [e] at hqM; simp at hqM)
          obtain ⟨⟨y0, y1, y2, y3, y4⟩, ey⟩ : ∃ y, y = ca M q := ⟨_, rfl⟩
          have ey := ey.symm
          rw [ey] at eAt eBa
          have HBE := hide (berV_at (id := y0) (clB_iff.2 (unhide HOK)) hqM (by rw [ey]))
          rw [ey] at HBE
          have eA4 : y4 = -1 := eAt
          replace eBa : ba (N : Int) L E k' = M.set q (y0, y1, y2, y3, lbV (N : Int) M (y0, y1, y2, y3, y4)) := eBa
          have HEB := hide eBa
          have HC2 := hide hC'
          have HEY := hide ey
          have HA4 := hide eA4
          have HOM := hide hoM
          clear ey eAt eBa hC' hmin hcq hne hoM eA4 hz1 hz2 HB HO
          have ck := (unhide HA).cell (bo_at (H := H) hq)
          have fz := (unhide HA).frozen q
          have HA2 : Hid (OwnV (wr.setCell ⟨ga, q, none⟩ (.bool true)) ga (bo L.length (fun i => if i = q then true else H i))) := by
            show OwnV _ _ _
            rw [← bo_set true hq]
            exact (unhide HA).set q _ (by rw [bo_len]; exact hq)
          have HOM2 := hide ((unhide HOM).other (a := ⟨ga, q, none⟩) (by show go ≠ ga; omega) (.bool true))
          have HW2 := hide ((unhide HW).setCell (p := ⟨ga, q, none⟩) hga (.bool true))
          have HV2 : Hid (RCall (wr.setCell ⟨ga, q, none⟩ (.bool true)) (.slice (some ⟨go, 0, none⟩) L.length sc) M) := by
            show RCall _ _ _
            rw [← unhide HML]
            exact OwnV.recsIn (unhide HOM2) (by rw [unhide HML]; exact hcap.1) (by unfold maxLen; omega)
          obtain ⟨m0, -, -, -, -⟩ := own_call (unhide HOM2) hqM (unhide HEY)
          have dq : decide ((q : Int) < 0) = false := by simp
          obtain ⟨V5, eV5⟩ : ∃ V, V = wr.setCell ⟨ga, q, none⟩ (.bool true) := ⟨_, rfl⟩
          rw [← eV5] at HA2 HOM2 HW2 HV2 m0
          have Q5 := hide (specBerth_any _ (N : Int) M y0 V5 (unhide HV2))
          rw [unhide HBE] at Q5
          go_upto_region 14 with (fail)
          rw [← eV5]
          clear eV5 ck fz HA HOM HW HBE HV2
          go_wp2_with fail
          refine (unhide Q5).mono ?_
          rintro e w6 ⟨rfl, hbb⟩
          have HA3 := hide ((unhide HA2).step hbb)
          have HOM3 := hide ((unhide HOM2).step hbb)
          have HW3 := hide (Below.step (unhide HW2) hbb)
          clear hbb Q5 m0 HA2 HOM2 HW2
          generalize lbV (N : Int) M (y0, y1, y2, y3, y4) = z at *
          by_cases hz : z = -1
          · have dz : decide (z ≠ -1) = false := by simp [hz]
            have HM2 : Hid (ba (N : Int) L E k' = M) := by
              show _ = _
              rw [unhide HEB, hz, ← unhide HA4, ← unhide HEY]
              exact set_self hqM
            clear HEB
            dsimp only
            rw [dz]
            go_wp2
            go_roundg (L.length - k')
            case measure => omega
            case rel => exact ⟨k', _, hk2, rfl, trivial, HC2, by rw [unhide HM2]; exact ⟨_, sc, by rw [unhide HML], by rw [unhide HML]; exact hcap.1, by unfold maxLen; omega, fun _ => ⟨go, rfl, hgo, hgo2, unhide HOM3⟩⟩, HA3, HW3⟩
          · have dz : decide (z ≠ -1) = true := by simp [hz]
            obtain ⟨-, -, -, -, m4⟩ := own_call (unhide HOM3) hqM (unhide HEY)
            have fz := (unhide HOM3).frozen (q * 5 + 4)
            have HOM4 := hide (own_setAt (unhide HOM3) hqM (unhide HEY) z)
            have HA4' := hide ((unhide HA3).other (a := ⟨go, q * 5 + 4, none⟩) (by show ga ≠ go; omega) (.int .i64 z))
            have HW4 := hide ((unhide HW3).setCell (p := ⟨go, q * 5 + 4, none⟩) hgo (.int .i64 z))
            clear HOM3 HA3 HW3
            dsimp only
            rw [dz]
            go_wp2
            go_roundg (L.length - k')
            case measure => omega
            case rel => exact ⟨k', _, hk2, rfl, trivial, HC2, by rw [unhide HEB]; exact ⟨_, sc, by rw [List.length_set, unhide HML], by rw [List.length_set, unhide HML]; exact hcap.1, by unfold maxLen; omega, fun _ => ⟨go, rfl, hgo, hgo2, unhide HOM4⟩⟩, HA4', HW4⟩

end Go.Proofs.Ytogoknldhimgfaa
