/- Arrays of bools of the call's own; contracts of the program's isOpen and comesTo. -/
import Derived.Test.YtahgblhmdhjahaaImSe2
import Derived.Test.YtahgblhmdhjahaaSeG0
import Derived.Laws.Tables
namespace Go.Proofs.Ytahgblhmdhjahaa
open Go.RowKit

/-- The array at block g is H. -/
def ArrIs (W : World) (g : Nat) (H : Nat → Bool) : Prop := W.heap[g]? = some (.cells (bo 144 H).toArray 80 (0, 0))
theorem ArrIs.own {W : World} {g : Nat} {H : Nat → Bool} (h : ArrIs W g H) : OwnV W g (bo 144 H) := ⟨_, _, h, fun i _ => by simp⟩
theorem ArrIs.step {W W' : World} {g : Nat} {H : Nat → Bool} (h : ArrIs W g H) (hb : Below W.heap.size W W') : ArrIs W' g H := by
  unfold ArrIs at *
  rw [hb.block g (Array.getElem?_eq_some_iff.1 h).1]
  exact h
theorem ArrIs.cong {W : World} {g : Nat} {H H' : Nat → Bool} (h : ArrIs W g H) (e : ∀ i, i < 144 → H i = H' i) : ArrIs W g H' := by
  unfold ArrIs at *
  rw [← bo_congr e]
  exact h
theorem ArrIs.put {W : World} {g : Nat} {H : Nat → Bool} (h : ArrIs W g H) {q : Nat} (hq : q < 144) (b : Bool) : ArrIs (W.setCell ⟨g, q, none⟩ (.bool b)) g (fun i => if i = q then b else H i) := by
  unfold ArrIs at *
  rw [heap_setCell_same W g q _ _ _ h, ← bo_set b hq]
  congr 2
  simp
theorem ArrIs.other {W : World} {g : Nat} {H : Nat → Bool} (h : ArrIs W g H) {g' i : Nat} (hne : g ≠ g') (u : Value) : ArrIs (W.setCell ⟨g', i, none⟩ u) g H := by
  unfold ArrIs at *
  rw [Go.Deep.blk_setCell_other W ⟨g', i, none⟩ u g hne]
  exact h

def comeH (s : Se) (H : Nat → Bool) (p : Nat) : Bool := H p || (nbs s.wd s.D.length (p : Int)).any (fun b => H b.toNat)
theorem nextB_comm (wd a b : Int) : nextB wd a b = nextB wd b a := by
  unfold nextB
  rw [show (a % wd - b % wd) * (a % wd - b % wd) = (b % wd - a % wd) * (b % wd - a % wd) by rw [← Int.neg_mul_neg]; congr 1 <;> omega, show (a / wd - b / wd) * (a / wd - b / wd) = (b / wd - a / wd) * (b / wd - a / wd) by rw [← Int.neg_mul_neg]; congr 1 <;> omega]
theorem comeH_eq {s : Se} (hn : SeaN s) (H : Nat → Bool) {q : Nat} (hq : q < s.D.length) : comeH s H q = (List.range s.D.length).any (fun p => H p && adjB s p q) := by
  rw [Bool.eq_iff_iff]
  unfold comeH
  rw [Bool.or_eq_true, List.any_eq_true, List.any_eq_true]
  constructor
  · rintro (h | ⟨b, hb, hH⟩)
    · refine ⟨q, by rw [List.mem_range]; exact hq, ?_⟩
      unfold adjB
      simp [h]
    · obtain ⟨h0, h1, hx⟩ := (nbs_mem hn (by omega) (by omega)).1 hb
      refine ⟨b.toNat, by rw [List.mem_range]; omega, ?_⟩
      unfold adjB
      rw [hH, show ((b.toNat : Nat) : Int) = b by omega, nextB_comm, hx]
      simp
  · rintro ⟨p, hp, h⟩
    rw [List.mem_range] at hp
    rw [Bool.and_eq_true] at h
    obtain ⟨hH, ha⟩ := h
    unfold adjB at ha
    rw [Bool.or_eq_true, decide_eq_true_eq] at ha
    rcases ha with rfl | ha
    · left; exact hH
    · right
      refine ⟨(p : Int), (nbs_mem hn (by omega) (by omega)).2 ⟨by omega, by omega, by rw [nextB_comm]; exact ha⟩, by simpa using hH⟩
theorem nextH_eq {s : Se} (hn : SeaN s) (H : Nat → Bool) (t : Nat) {q : Nat} (hq : q < s.D.length) : nextH s H t q = (openB s q (t + 1) && comeH s H q) := by
  unfold nextH
  rw [comeH_eq hn H hq]

set_option maxHeartbeats 4000000 in
theorem isOpen_any (s : Se) (p t : Nat) (dao : Option Addr) (dn dc : Nat) (fao : Option Addr) (fn fc : Nat) (w : World) (hn : SeaN s) (hD : IntsIn w (.slice dao dn dc) s.D) (hF : RClosed w (.slice fao fn fc) s.F) (hp : p < s.D.length) :
    Calls Try.prog 54 #[vSea s.wd s.hg (.slice dao dn dc) (.slice fao fn fc), .int .i64 (p : Int), .int .i64 (t : Int)] w fun e w' => e = .returned (.bool (openB s p t)) ∧ Below w.heap.size w w' := by
  have A := Below.alloc1 w (.cells #[.int .i64 s.wd, .int .i64 s.hg, .slice dao dn dc, .slice fao fn fc] 27)
  have O := ownV_alloc w #[.int .i64 s.wd, .int .i64 s.hg, .slice dao dn dc, .slice fao fn fc] 27
  have HS := hide (isSailed_any s (p : Int) dao dn dc (.slice fao fn fc) _ hn (hD.below A))
  have HSH := hide fun V h => isShut_any s (p : Int) (t : Int) (.slice dao dn dc) fao fn fc V hn h (by omega) (by omega)
  have ES : Hid (sailB s (p : Int) = !decide (s.D.getD p 0 = 0)) := by
    show _ = _
    unfold sailB onB costAt
    rw [inB_mk (by omega) (by omega)]
    rfl
  have HF := hide (hF.below A)
  have HW := hide A
  have HO := hide O
  obtain ⟨r, er⟩ : ∃ r, r = openB s p t := ⟨_, rfl⟩
  rw [← er]
  have ER : Hid (r = (sailB s (p : Int) && !shutB s (p : Int) (t : Int))) := by show _ = _; rw [er, unhide ES]; rfl
  clear A O hD hF hn er ES
  unfold vSea at HS HSH ⊢
  cases h1 : sailB s (p : Int) with
  | false =>
    rw [h1] at HS
    have e1 : r = false := by rw [unhide ER, h1]; rfl
    subst e1
    clear ER h1
    go_enter Try.func54, Try.ntmps54
    go_wp2_with fail
    refine (unhide HS).mono ?_
    rintro e w1 ⟨rfl, hb⟩
    replace HW := hide (Below.step (unhide HW) hb)
    clear hb
    go_wp2
    go_ret
    exact ⟨rfl, unhide HW⟩
  | true =>
    rw [h1] at HS
    have e1 : r = !shutB s (p : Int) (t : Int) := by rw [unhide ER, h1]; rfl
    clear ER h1
    generalize shutB s (p : Int) (t : Int) = sb at *
    subst e1
    go_enter Try.func54, Try.ntmps54
    go_wp2_with fail
    refine (unhide HS).mono ?_
    rintro e w1 ⟨rfl, hb⟩
    replace HW := hide (Below.step (unhide HW) hb)
    replace HF := hide ((unhide HF).below hb)
    replace HO := hide (OwnV.step (unhide HO) hb)
    have b0 := (unhide HO).cell (i := 0) rfl
    have b1 := (unhide HO).cell (i := 1) rfl
    have b2 := (unhide HO).cell (i := 2) rfl
    have b3 := (unhide HO).cell (i := 3) rfl
    clear hb
    go_wp2_with fail
    refine (unhide HSH _ (unhide HF)).mono ?_
    rintro e w2 ⟨rfl, hb⟩
    replace HW := hide (Below.step (unhide HW) hb)
    clear hb
    go_wp2
    go_ret
    exact ⟨rfl, unhide HW⟩

set_option maxRecDepth 10000 in
set_option maxHeartbeats 8000000 in
theorem comesTo_any (s : Se) (p : Nat) (dao : Option Addr) (dn dc : Nat) (fv : Value) (gh : Nat) (H : Nat → Bool) (w : World) (hn : SeaN s) (hD : IntsIn w (.slice dao dn dc) s.D) (hH : ArrIs w gh H) (hp : p < s.D.length) :
    Calls Try.prog 55 #[vSea s.wd s.hg (.slice dao dn dc) fv, .pointer (some ⟨gh, 0, none⟩), .int .i64 (p : Int)] w fun e w' => e = .returned (.bool (comeH s H p)) ∧ Below w.heap.size w w' := by
  have A := Below.alloc1 w (.cells #[.int .i64 s.wd, .int .i64 s.hg, .slice dao dn dc, fv] 27)
  have hle := hn.le
  have HNB := hide (neighbours_any s (p : Int) dao dn dc fv _ hn (hD.below A) (by omega) (by omega))
  have HW := hide A
  have HA := hide (hH.step A)
  have HN := hide hn
  have hp144 : p < 144 := by omega
  have hpI : (p : Int) < 144 := by omega
  have cp := (unhide HA).own.cell (i := p) (bo_at hp144)
  clear A hD hH hn
  obtain ⟨L, eL⟩ : ∃ L, L = nbs s.wd s.D.length (p : Int) := ⟨_, rfl⟩
  rw [← eL] at HNB
  obtain ⟨r, er⟩ : ∃ r, r = comeH s H p := ⟨_, rfl⟩
  rw [← er]
  have ER : Hid (r = (H p || L.any (fun b => H b.toNat))) := by show _ = _; rw [er, eL]; rfl
  have EL := hide eL
  clear er eL
  unfold vSea at HNB ⊢
  cases h1 : H p with
  | true =>
    rw [h1] at cp
    have e1 : r = true := by rw [unhide ER, h1]; rfl
    subst e1
    clear ER h1
    go_enter Try.func55, Try.ntmps55
    go_wp2
    go_ret
    exact ⟨rfl, unhide HW⟩
  | false =>
    rw [h1] at cp
    have e1 : r = L.any (fun b => H b.toNat) := by rw [unhide ER, h1]; rfl
    have E1 := hide e1
    clear ER h1 e1
    go_enter Try.func55, Try.ntmps55
    go_wp2_with fail
    refine (unhide HNB).mono ?_
    rintro e w1 ⟨a, n', cpp, rfl, ho, hb⟩
    replace HW := hide (Below.step (unhide HW) hb)
    replace HA := hide ((unhide HA).step hb)
    obtain ⟨a', cp', e', hl1, hl2, hl3⟩ := ho.intsIn
    simp only [Value.slice.injEq] at e'
    obtain ⟨rfl, rfl, rfl⟩ := e'
    unfold maxLen at hl2
    have HLC := hide hl3
    clear hb HNB ho hl3 cp
    go_wp2
    go_loopg [18] L.length (fun g i wr => w1 = wr ∧ ∃ k : Nat, k ≤ L.length ∧ g = L.length - k ∧ i = .int .i64 k ∧ Hid (∀ r, r < k → H (L.getD r 0).toNat = false))
    case atStart => exact ⟨rfl, 0, Nat.zero_le _, rfl, rfl, fun r hr => by omega⟩
    case round =>
      obtain ⟨rfl, k, hk, rfl, rfl, HS⟩ := hrel
      by_cases hkn : k < L.length
      case neg =>
        have HY : Hid (r = false) := by show _ = _; rw [unhide E1, any_f (d := 0) (fun i hi => unhide HS i (by omega))]
        have hki : ¬ (k : Int) < L.length := by omega
        clear HS
        go_wp2
        go_ret
        exact ⟨ret_bool (unhide HY).symm, unhide HW⟩
      have hm : L.getD k 0 ∈ nbs s.wd s.D.length (p : Int) := by rw [← unhide EL, getD_lt hkn]; exact List.getElem_mem _
      obtain ⟨hb0, hb1, -⟩ := (nbs_mem (unhide HN) (by omega) (by omega)).1 hm
      obtain ⟨q, eq⟩ : ∃ q : Nat, L.getD k 0 = (q : Int) := ⟨(L.getD k 0).toNat, by omega⟩
      have hq : q < s.D.length := by omega
      obtain ⟨bl, ol, rfl, hcl⟩ := unhide HLC k hkn
      rw [eq] at hcl
      have hki : (k : Int) < L.length := by omega
      have hqI : (q : Int) < 144 := by omega
      have cq := (unhide HA).own.cell (i := q) (bo_at (show q < 144 by omega))
      have HYES : Hid (H q = true → r = true) := fun h => by rw [unhide E1, any_t (d := 0) hkn (by rw [eq]; simpa using h)]
      have HNO : Hid (H q = false → ∀ r, r < k + 1 → H (L.getD r 0).toNat = false) := fun h r hr => by
        by_cases e : r = k
        · rw [e, eq]; simpa using h
        · exact unhide HS r (by omega)
      clear hm hb0 hb1 eq HS
      cases h2 : H q with
      | true =>
        rw [h2] at cq
        have HR := hide (unhide HYES h2)
        clear HYES HNO h2
        go_wp2
        go_ret
        exact ⟨ret_bool (unhide HR).symm, unhide HW⟩
      | false =>
        rw [h2] at cq
        have HS' := hide (unhide HNO h2)
        clear HYES HNO h2
        go_wp2
        go_roundg (L.length - (k + 1))
        case measure => omega
        case rel => exact ⟨rfl, k + 1, by omega, rfl, by go_num, HS'⟩

end Go.Proofs.Ytahgblhmdhjahaa
