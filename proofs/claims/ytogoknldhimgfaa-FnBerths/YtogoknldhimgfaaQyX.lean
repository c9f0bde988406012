/- FnBerths: mathematics, draws, both BerthAll, the law walked. Laid together by wip/lay17.py. -/
import Derived.Test.YtogoknldhimgfaaQyN
import Derived.Test.YtogoknldhimgfaaQyZ
import Derived.Test.YtogoknldhimgfaaDrE
import Derived.Test.YtogoknldhimgfaaMuCall
import Derived.Deep.DeepCutAuto
import Derived.Deep.Cut
import Derived.BigRegion
import Derived.Deep.RegionHeld3
import Derived.Test.YtogoknldhimgfaaAtBig
import Derived.Laws.StructEq
namespace Go.Proofs.Ytogoknldhimgfaa

theorem leastV_le {B : Nat → Bool} {m long p : Nat} (h1 : p + m ≤ long) (h2 : freeB B p m = true) : ∃ q : Nat, leastV B m long = (q : Int) ∧ q ≤ p := by
  unfold leastV
  cases h : (List.range (long + 1 - m)).find? (fun p => freeB B p m) with
  | none =>
    rw [List.find?_eq_none] at h
    exact absurd h2 (h p (List.mem_range.2 (by omega)))
  | some q =>
    refine ⟨q, rfl, ?_⟩
    rw [List.find?_range_eq_some] at h
    refine Classical.byContradiction fun hn => ?_
    have := h.2.2 p (by omega)
    rw [h2] at this
    cases this
section
variable {L : List CallT} {E : List Int} {long : Int}
theorem setAt_setAt (c : CallT) (a b : Int) : setAt (setAt c a) b = setAt c b := rfl
/-- What stands later stands now, or has no berth now. -/
theorem ba_grow (hT : Turn L E) {k : Nat} : ∀ {d : Nat}, k + d ≤ L.length → ∀ j, ca (ba long L E (k + d)) j = ca (ba long L E k) j ∨ cAt (ca (ba long L E k) j) = -1
  | 0, _, _ => Or.inl rfl
  | d + 1, hd, j => by
    rcases ba_grow hT (k := k) (d := d) (by omega) j with h | h
    · rw [show k + (d + 1) = (k + d) + 1 by omega]
      simp only [ba]
      split
      · rename_i e
        rw [ca_set (by rw [ba_len]; exact (hT.lt (by omega)).1)]
        by_cases ej : j = eN E (k + d)
        · right; rw [← h, ej]; exact e
        · left; rw [if_neg ej]; exact h
      · exact Or.inl h
    · exact Or.inr h
/-- A call that lies keeps its berth. -/
theorem ba_keeps (hT : Turn L E) {i : Nat} (h : cAt (ca L i) ≠ -1) : ca (ba long L E L.length) i = ca L i := by
  have := ba_grow (long := long) hT (k := 0) (d := L.length) (by omega) i
  rw [Nat.zero_add] at this
  rcases this with h1 | h1
  · exact h1
  · exact absurd h1 h
/-- A call that is asked has no other turn. -/
theorem ba_fixed (hT : Turn L E) {k : Nat} (hk : k < L.length) : ∀ {d : Nat}, k + 1 + d ≤ L.length → ca (ba long L E (k + 1 + d)) (eN E k) = ca (ba long L E (k + 1)) (eN E k)
  | 0, _ => rfl
  | d + 1, hd => by
    rw [show k + 1 + (d + 1) = (k + 1 + d) + 1 by omega]
    simp only [ba]
    split
    · rw [ca_set (by rw [ba_len]; exact (hT.lt (by omega)).1), if_neg (fun e => hT.ne hk (by omega) (by omega) e)]
      exact ba_fixed hT hk (by omega)
    · exact ba_fixed hT hk (by omega)
/-- Whoever has no berth in the end can be given none. -/
theorem ba_none (hT : Turn L E) (hP : CaP long L) (hN : NoMeet L) {i : Nat} (hi : i < L.length) (hm : cAt (ca (ba long L E L.length) i) = -1) : lbV long (ba long L E L.length) (ca (ba long L E L.length) i) = -1 := by
  obtain ⟨k, hk, rfl⟩ := hT.has hi
  obtain ⟨hPk, _⟩ := ba_ok hT hP hN (k := k) (by omega)
  obtain ⟨hPn, _⟩ := ba_ok hT hP hN (k := L.length) (Nat.le_refl _)
  have e1 : ca (ba long L E L.length) (eN E k) = ca (ba long L E (k + 1)) (eN E k) := by
    have := ba_fixed (long := long) hT hk (d := L.length - (k + 1)) (by omega)
    rwa [show k + 1 + (L.length - (k + 1)) = L.length by omega] at this
  have hik : eN E k < (ba long L E k).length := by rw [ba_len]; exact hi
  have hin : eN E k < (ba long L E L.length).length := by rw [ba_len]; exact hi
  have hg : ∀ j, ca (ba long L E L.length) j = ca (ba long L E k) j ∨ cAt (ca (ba long L E k) j) = -1 := fun j => by
    have := ba_grow (long := long) hT (k := k) (d := L.length - k) (by omega) j
    rwa [show k + (L.length - k) = L.length by omega] at this
  have hl0 : cAt (ca L (eN E k)) = -1 := by
    refine Classical.byContradiction fun hne => ?_
    have := ba_keeps (long := long) hT hne
    rw [this] at hm
    exact hne hm
  have e2 : ca (ba long L E (k + 1)) (eN E k) = setAt (ca (ba long L E k) (eN E k)) (lbV long (ba long L E k) (ca (ba long L E k) (eN E k))) := by
    simp only [ba]
    rw [if_pos (by rw [ba_at hT hk]; exact hl0), ca_set hik, if_pos rfl]
  have e3 : lbV long (ba long L E k) (ca (ba long L E k) (eN E k)) = -1 := by
    have h9 : cAt (setAt (ca (ba long L E k) (eN E k)) (lbV long (ba long L E k) (ca (ba long L E k) (eN E k)))) = -1 := by rw [← e2, ← e1]; exact hm
    exact h9
  have hci := (hPk.2.2 _ hik).2.1.1
  have hlo := hP.1
  rcases lbV_cases hPn hin with h | ⟨p, h1, h2, h3⟩
  · exact h
  · exfalso
    have e4 : cLg (ca (ba long L E L.length) (eN E k)) = cLg (ca (ba long L E k) (eN E k)) := by rw [e1, e2]; rfl
    have hfree : freeB (tkB (ba long L E k) (ca (ba long L E k) (eN E k)) (ba long L E k).length) p (cLg (ca (ba long L E k) (eN E k))).toNat = true := by
      rw [free_meet hPk hik]
      intro j hj hne hmt
      rcases hg j with h5 | h5
      · refine h3 j (by rw [ba_len] at hj ⊢; exact hj) hne ?_
        rw [h5, e1, e2, setAt_setAt]
        exact hmt
      · have := hmt.2.1
        omega
    obtain ⟨q, h6, _⟩ := leastV_le (long := long.toNat) (by omega) hfree
    have h7 : leastV (tkB (ba long L E k) (ca (ba long L E k) (eN E k)) (ba long L E k).length) (cLg (ca (ba long L E k) (eN E k))).toNat long.toNat = -1 := e3
    rw [h6] at h7
    omega
/-- Of calls that are clear each that lies could be given its berth, or a lesser one. -/
theorem lb_le {M : List CallT} (hP : CaP long M) (hN : NoMeet M) {i : Nat} (hi : i < M.length) (ha : 0 ≤ cAt (ca M i)) : 0 ≤ lbV long M (ca M i) ∧ lbV long M (ca M i) ≤ cAt (ca M i) := by
  have hci := (hP.2.2 i hi).2.1
  have h1 := hci.1
  have h2 := hci.2.2
  have hlo := hP.1
  obtain ⟨p, ep⟩ : ∃ p : Nat, cAt (ca M i) = p := ⟨(cAt (ca M i)).toNat, by omega⟩
  have hf : freeB (tkB M (ca M i) M.length) p (cLg (ca M i)).toNat = true := by
    rw [free_meet hP hi]
    intro j hj hne hm
    rw [← ep, setAt_at] at hm
    exact hN.ne hi hj (fun e => hne e.symm) hm
  obtain ⟨q, h6, h7⟩ := leastV_le (long := long.toNat) (by omega) hf
  have h8 : lbV long M (ca M i) = (q : Int) := h6
  omega
/-- What Berth tells in the end. -/
theorem ba_ber (hT : Turn L E) (hP : CaP long L) (hN : NoMeet L) {i : Nat} (hi : i < L.length) : ∃ z, berV long (ba long L E L.length) (cId (ca (ba long L E L.length) i)) = (z, decide (0 ≤ cAt (ca (ba long L E L.length) i))) ∧ (0 ≤ cAt (ca (ba long L E L.length) i) → z ≤ cAt (ca (ba long L E L.length) i)) := by
  obtain ⟨hPn, hNn⟩ := ba_ok hT hP hN (k := L.length) (Nat.le_refl _)
  have hin : i < (ba long L E L.length).length := by rw [ba_len]; exact hi
  refine ⟨lbV long (ba long L E L.length) (ca (ba long L E L.length) i), ?_, ?_⟩
  · rw [berV_at (clB_iff.2 ⟨hPn, hNn⟩) hin rfl]
    by_cases ha : 0 ≤ cAt (ca (ba long L E L.length) i)
    · have := lb_le hPn hNn hin ha
      rw [decide_eq_true ha, decide_eq_true (by omega)]
    · have h2 := (hPn.2.2 i hin).2.1.2.2
      have := ba_none hT hP hN hi (by omega)
      rw [decide_eq_false ha, this]
      rfl
  · intro ha
    exact (lb_le hPn hNn hin ha).2
/-- The greatest sum has each call's length. -/
theorem lgs_ge (hP : CaP long L) {i : Nat} {m : Int} (ho : onAt (ca L i) m = true) : ∀ k, i < k → k ≤ L.length → cLg (ca L i) ≤ lgs L m k := by
  intro k
  induction k with
  | zero => intro h; omega
  | succ k ih =>
    intro h1 h2
    have hb := lgs_bd hP m k (by omega)
    have hl := (hP.2.2 k (by omega)).2.1.1
    simp only [lgs]
    by_cases e : i = k
    · subst e
      rw [if_pos ho]
      omega
    · have := ih (by omega) (by omega)
      split <;> omega
theorem bdM_ge (hP : CaP long L) {i : Nat} (hi : i < L.length) : ∀ k, i < k → k ≤ L.length → cLg (ca L i) ≤ bdM L k := by
  intro k
  induction k with
  | zero => intro h; omega
  | succ k ih =>
    intro h1 h2
    have hc := (hP.2.2 i hi).2.1.2.1
    simp only [bdM]
    by_cases e : i = k
    · subst e
      have := lgs_ge hP (i := i) (m := cFr (ca L i)) (by unfold onAt; rw [decide_eq_true (Int.le_refl _), decide_eq_true hc.2.1]; rfl) L.length hi (Nat.le_refl _)
      omega
    · have := ih (by omega) (by omega)
      omega
/-- Calls while they are drawn. -/
structure DqP (long : Int) (L : List CallT) (id : Int) : Prop where
  lo : 10 ≤ long ∧ long ≤ 50
  ok : CaP long L
  nm : NoMeet L
  idb : 0 ≤ id ∧ id ≤ 3 * (L.length : Int)
  last : 0 < L.length → cId (ca L (L.length - 1)) = id
theorem ca_app {c : CallT} (k : Nat) (hk : k < L.length) : ca (L ++ [c]) k = ca L k := by unfold ca; simp only [List.getD]; rw [List.getElem?_append_left hk]
theorem ca_last (L : List CallT) (c : CallT) : ca (L ++ [c]) L.length = c := by unfold ca; simp [List.getD]
theorem DqP.next {id d lg fr tt : Int} (h : DqP long L id) (hl : L.length < 8) (hd : 1 ≤ d ∧ d ≤ 3) (hlg : 1 ≤ lg ∧ lg ≤ 50) (hfr : 0 ≤ fr ∧ fr < 60) (htt : fr < tt ∧ tt ≤ 200) : DqP long (L ++ [(id + d, lg, fr, tt, -1)]) (id + d) := by
  have el : (L ++ [(id + d, lg, fr, tt, (-1 : Int))]).length = L.length + 1 := by simp
  have hb := h.idb
  have hlo := h.lo
  refine ⟨hlo, ⟨by omega, by rw [el]; omega, fun k hk => ?_⟩, fun i hi k hk hm => ?_, by rw [el]; push_cast; omega, fun _ => by rw [el, Nat.add_sub_cancel, ca_last]⟩
  · rw [el] at hk
    by_cases c : k < L.length
    · have hs := h.ok.2.2 k c
      unfold CaS at hs ⊢
      rw [ca_app k c]
      refine ⟨hs.1, hs.2.1, fun h0 => ?_⟩
      rw [ca_app (k - 1) (by omega)]
      exact hs.2.2 h0
    · obtain rfl : k = L.length := by omega
      unfold CaS
      rw [ca_last]
      refine ⟨?_, ⟨?_, ?_, Or.inl rfl⟩, fun h0 => ?_⟩
      · show 1 ≤ id + d ∧ id + d ≤ 1000000; omega
      · show 1 ≤ lg ∧ lg ≤ 1000; omega
      · show 0 ≤ fr ∧ fr < tt ∧ tt ≤ 100000000; omega
      · rw [ca_app _ (by omega), h.last h0]
        show id < id + d
        omega
  · rw [el] at hi
    by_cases c : i < L.length
    · rw [ca_app i c, ca_app k (by omega)] at hm
      exact h.nm i c k hk hm
    · obtain rfl : i = L.length := by omega
      rw [ca_last] at hm
      have h0 : (0 : Int) ≤ -1 := hm.1
      omega
/-- The last one is given a berth. -/
theorem DqP.put {id : Int} (h : DqP long L id) (hl : 0 < L.length) : DqP long (L.set (L.length - 1) (setAt (ca L (L.length - 1)) (lbV long L (ca L (L.length - 1))))) id := by
  obtain ⟨h1, h2⟩ := set_ok h.ok h.nm (i := L.length - 1) (by omega)
  refine ⟨h.lo, h1, h2, by rw [List.length_set]; exact h.idb, fun _ => ?_⟩
  rw [List.length_set, ca_set (by omega), if_pos rfl]
  exact h.last hl
end
/-- The law's own two calls. -/
theorem ber_two : berV 9 [(1, 4, 0, 5, 0), (2, 5, 0, 5, -1)] 2 = (4, true) := by decide +kernel

end Go.Proofs.Ytogoknldhimgfaa

namespace Go.Proofs.Ytogoknldhimgfaa
open Go.RowKit

/-- Of what was there only the cursor has turned. -/
abbrev KC (cb : Nat) (w W : World) : Prop := Kept (fun b => b = cb) w W

theorem own_callQ {w : World} {g i : Nat} {M : List CallT} (h : OwnV w g (recCells 5 eCall M)) (hi : i < M.length) {x0 x1 x2 x3 x4 : Int} (e : ca M i = (x0, x1, x2, x3, x4)) :
    w.cell? ⟨g, i * 5, none⟩ = some (.int .i64 x0) ∧ w.cell? ⟨g, i * 5 + 1, none⟩ = some (.int .i64 x1) ∧ w.cell? ⟨g, i * 5 + 2, none⟩ = some (.int .i64 x2) ∧ w.cell? ⟨g, i * 5 + 3, none⟩ = some (.int .i64 x3) ∧ w.cell? ⟨g, i * 5 + 4, none⟩ = some (.int .i64 x4) := by
  have e : M.getD i default = (x0, x1, x2, x3, x4) := e
  have f : ∀ j, j < 5 → w.cell? ⟨g, i * 5 + j, none⟩ = some (eCall (x0, x1, x2, x3, x4) j) := fun j hj => by rw [← e]; exact h.cell (recCells_get hi hj)
  exact ⟨f 0 (by omega), f 1 (by omega), f 2 (by omega), f 3 (by omega), f 4 (by omega)⟩

set_option maxRecDepth 100000 in
set_option maxHeartbeats 16000000 in
theorem l17DrawCalls_any (cb n : Nat) (v : Value) (w : World) (h : Cur w cb v n) (hn : n ≤ 1048576) :
    Calls Try.prog 53 #[.pointer (some ⟨cb, 0, none⟩), .bool true] w fun e w' => ∃ long ao m c L id, e = .returned (.tuple #[.int .i64 long, .slice ao m c]) ∧ RowB 31 5 eCall w.heap.size w' ao m c L ∧ DqP long L id ∧ Cur w' cb v n ∧ KC cb w w' := by
  have QB := hide fun W (hW : Cur W cb v n) k h0 h1 => l1BelowV_any cb n v k W hW hn h0 h1
  have QO := hide fun W (hW : Cur W cb v n) k h0 h1 => l1Once_any cb n v k W hW hn h0 h1
  have hcb := h.lt
  have HC := hide h
  clear h
  go_enter Try.func53, Try.ntmps53
  go_wp2_with fail
  refine (unhide QB _ (unhide HC) 40 (by omega) (by omega)).mono ?_
  rintro e W1 ⟨y, rfl, hy0, hy1, hC, hK⟩
  replace HC := hide hC
  have HK := hide hK
  clear hC hK
  obtain ⟨long, eg⟩ : ∃ g, g = 10 + y := ⟨_, rfl⟩
  have qg : IntKind.i64.wrap (10 + y) = long := by rw [← eg, IntKind.wrap_i64]; omega
  have qg2 : 10 + y = long := eg.symm
  have hlo : 10 ≤ long ∧ long ≤ 50 := by omega
  clear eg
  have hA := Below.alloc1 W1 (.cells #[] 31)
  have HR := hide (rowB_new 31 5 eCall W1 w.heap.size (unhide HK).size)
  obtain ⟨V1, eV⟩ : ∃ V, V = W1.alloc (.cells #[] 31) := ⟨_, rfl⟩
  rw [← eV] at HR hA
  obtain ⟨ro, ero⟩ : ∃ r : Option Addr, r = some ⟨W1.heap.size, 0, none⟩ := ⟨_, rfl⟩
  rw [← ero] at HR
  replace HC := hide ((unhide HC).below hA)
  replace HK := hide ((unhide HK).trans (kept_of_below hA))
  go_wp2_with fail
  rw [← eV, ← ero]
  clear eV ero hA
  refine (unhide QB _ (unhide HC) 8 (by omega) (by omega)).mono ?_
  rintro e W3 ⟨x, rfl, hx0, hx1, hC, hK⟩
  replace HC := hide hC
  replace HR := hide ((unhide HR).kept hK (fun g _ hg _ e => by have e : g = cb := e; omega))
  replace HK := hide ((unhide HK).trans hK)
  clear hC hK
  obtain ⟨N, rfl⟩ : ∃ N : Nat, x = (N : Int) := ⟨x.toNat, by omega⟩
  have hN : N ≤ 7 := by omega
  have HD : Hid (DqP long [] 0) := ⟨hlo, ⟨by omega, by simp, fun k hk => by simp at hk⟩, fun i hi => by simp at hi, by simp, fun h => by simp at h⟩
  generalize hw9 : W3 = w9 at *
  clear hw9
  go_wp2
  go_loopg [7, 8, 9] N (fun g ov dv iv wr => ∃ (i m c : Nat) (ro : Option Addr) (L : List CallT) (id : Int), i ≤ N ∧ g = i ∧ iv = .int .i64 (i : Int) ∧ dv = .int .i64 id ∧ ov = .slice ro m c ∧ m + i = N ∧ Hid (DqP long L id) ∧ Hid (RowB 31 5 eCall w.heap.size wr ro m c L) ∧ Hid (Cur wr cb v n) ∧ Hid (KC cb w wr))
  case atStart => exact ⟨N, 0, 0, ro, [], 0, Nat.le_refl _, rfl, rfl, rfl, rfl, by omega, HD, HR, HC, HK⟩
  case round =>
    clear HD HR HC HK qg qg2
    obtain ⟨i, m, c, ro, L, id, hi, hgi, rfl, rfl, rfl, hmi, HD, HR, HC, HK⟩ := hrel
    have HGI := hide hgi
    have hib := (unhide HD).idb
    have hlm := (unhide HR).len (by decide)
    clear hgi
    by_cases hi0 : 0 < i
    · have hii : (0 : Int) < (i : Int) := by omega
      have hid : 0 ≤ id ∧ id ≤ 100 := by omega
      have HLM := hide hlm
      clear hib hlm
      go_wp2_with fail
      refine (unhide QB _ (unhide HC) 3 (by omega) (by omega)).mono ?_
      rintro e U1 ⟨d0, rfl, hd0, hd1, hC, hK⟩
      replace HC := hide hC
      replace HR := hide ((unhide HR).kept hK (fun g _ hg _ e => by have e : g = cb := e; omega))
      replace HK := hide ((unhide HK).trans hK)
      clear hC hK
      obtain ⟨id2, eid⟩ : ∃ z, z = id + 1 + d0 := ⟨_, rfl⟩
      have q1 : IntKind.i64.wrap (id + 1 + d0) = id2 := by rw [← eid, IntKind.wrap_i64]; omega
      have q1b : id + 1 + d0 = id2 := eid.symm
      have HID : Hid (∃ d, (1 ≤ d ∧ d ≤ 3) ∧ id2 = id + d) := ⟨1 + d0, by omega, by omega⟩
      have hid2 : 0 ≤ id2 ∧ id2 ≤ 200 := by omega
      clear eid
      go_wp2_with fail
      refine (unhide QB _ (unhide HC) 15 (by omega) (by omega)).mono ?_
      rintro e U2 ⟨lq, rfl, hlq0, hlq1, hC, hK⟩
      replace HC := hide hC
      replace HR := hide ((unhide HR).kept hK (fun g _ hg _ e => by have e : g = cb := e; omega))
      replace HK := hide ((unhide HK).trans hK)
      clear hC hK
      obtain ⟨l0, el0⟩ : ∃ z, z = 1 + lq := ⟨_, rfl⟩
      have q2 : IntKind.i64.wrap (1 + lq) = l0 := by rw [← el0, IntKind.wrap_i64]; omega
      have q2b : 1 + lq = l0 := el0.symm
      have hl0 : 1 ≤ l0 ∧ l0 ≤ 15 := by omega
      clear el0
      go_wp2_with fail
      refine (unhide QB _ (unhide HC) 60 (by omega) (by omega)).mono ?_
      rintro e U3 ⟨fr, rfl, hfr0, hfr1, hC, hK⟩
      replace HC := hide hC
      replace HR := hide ((unhide HR).kept hK (fun g _ hg _ e => by have e : g = cb := e; omega))
      replace HK := hide ((unhide HK).trans hK)
      clear hC hK
      obtain ⟨gx, egx⟩ : ∃ g, g = U3.heap.size := ⟨_, rfl⟩
      have hgx : w.heap.size ≤ gx := by have := (unhide HK).size; omega
      have hrg : ∀ b, ro = some ⟨b, 0, none⟩ → b < gx := fun b e => by
        rcases (unhide HR).parts (by decide) with ⟨e2, _⟩ | ⟨g, e2, _, hg2, _⟩
        · rw [e] at e2; cases e2
        · rw [e] at e2; simp only [Option.some.injEq, Addr.mk.injEq, and_true] at e2; omega
      have HRG := hide hrg
      clear hrg
      by_cases hlg : long < l0
      case pos =>
        have dl : decide (long < l0) = true := decide_eq_true hlg
        obtain ⟨V2, eV2⟩ : ∃ V, V = U3.alloc (.cells #[.int .i64 id2, .int .i64 long, .int .i64 fr, .int .i64 0, .int .i64 (-1)] 31) := ⟨_, rfl⟩
        have hA3 : Below U3.heap.size U3 V2 := by rw [eV2]; exact Below.alloc1 _ _
        have HX : Hid (OwnV V2 gx [.int .i64 id2, .int .i64 long, .int .i64 fr, .int .i64 0, .int .i64 (-1)]) := by show OwnV _ _ _; rw [eV2, egx]; exact ownV_alloc _ _ _
        replace HR := hide ((unhide HR).below hA3)
        replace HC := hide ((unhide HC).below hA3)
        replace HK := hide ((unhide HK).trans (kept_of_below hA3))
        go_upto_region 11 with (fail)
        rw [← eV2, ← egx]
        obtain ⟨lg, elg⟩ : ∃ z : Int, z = long := ⟨_, rfl⟩
        rw [← elg] at HX
        have hlg1 : 1 ≤ lg ∧ lg ≤ 50 := by omega
        clear elg eV2 hA3 egx dl q1 q2 q1b q2b hlg hl0
        have x2 := (unhide HX).cell (i := 2) rfl
        have xz := (unhide HX).cell (i := 3) rfl
        have xf := (unhide HX).frozen 3
        go_wp2
        have hd : Below V2.heap.size V2 V2.drew := (Below.refl _ _).drew
        replace HR := hide ((unhide HR).below hd)
        replace HC := hide ((unhide HC).below hd)
        replace HK := hide ((unhide HK).trans (kept_of_below hd))
        replace HX := hide ((unhide HX).step hd)
        clear hd x2 xz xf
        have x2 := (unhide HX).cell (i := 2) rfl
        have xz := (unhide HX).cell (i := 3) rfl
        have xf := (unhide HX).frozen 3
        go_region_held3 (fun w' => w'.cell? ⟨gx, 2, none⟩ = some (.int .i64 fr)) (first | go_keep | exact ((unhide HX).set 3 _ (by simp)).cell (i := 2) rfl) (first
          | (go_at_call 65; refine (unhide QB _ (unhide HC) 40 (by omega) (by omega)).mono ?_; rintro e U4 ⟨u, rfl, hu0, hu1, hC, hK⟩; replace HC := hide hC; replace HR := hide ((unhide HR).kept hK (fun g _ hg _ e => by have e : g = cb := e; omega)); replace HK := hide ((unhide HK).trans hK); replace HX := hide ((unhide HX).kept hK (fun e => by have e : gx = cb := e; omega)); clear hC hK x2 xz xf; have x2 := (unhide HX).cell (i := 2) rfl; have xz := (unhide HX).cell (i := 3) rfl; have xf := (unhide HX).frozen 3))
        clear x2 xz xf
        obtain ⟨tt, ett⟩ : ∃ z, z = fr + 1 + u := ⟨_, rfl⟩
        have q3 : IntKind.i64.wrap (IntKind.i64.wrap (fr + 1) + u) = tt := by rw [show IntKind.i64.wrap (fr + 1) = fr + 1 by rw [IntKind.wrap_i64]; omega, ← ett, IntKind.wrap_i64]; omega
        have htt : fr < tt ∧ tt ≤ 200 := by omega
        rw [q3]
        clear q3 ett
        obtain ⟨V5, eV5⟩ : ∃ V, V = U4.setCell ⟨gx, 3, none⟩ (.int .i64 tt) := ⟨_, rfl⟩
        have hkp : Kept (fun b => b = gx) U4 V5 := by rw [eV5]; exact Kept.setCell (T := fun b => b = gx) (Kept.refl _ U4) (p := ⟨gx, 3, none⟩) rfl _
        have HX5 : Hid (OwnV V5 gx [.int .i64 id2, .int .i64 lg, .int .i64 fr, .int .i64 tt, .int .i64 (-1)]) := by show OwnV _ _ _; rw [eV5]; exact (unhide HX).set 3 _ (by simp)
        replace HR := hide ((unhide HR).kept hkp (fun g e _ _ hb => by have hb : g = gx := hb; have := unhide HRG g e; omega))
        replace HC := hide ((unhide HC).kept hkp (fun b hb => by have hb : b = gx := hb; omega))
        replace HK := hide ((unhide HK).own hkp (fun b hb => by have hb : b = gx := hb; omega))
        rw [← eV5]
        clear eV5 hkp HX HRG
        have x0 := (unhide HX5).cell (i := 0) rfl
        have x1 := (unhide HX5).cell (i := 1) rfl
        have x2 := (unhide HX5).cell (i := 2) rfl
        have x3 := (unhide HX5).cell (i := 3) rfl
        have x4 := (unhide HX5).cell (i := 4) rfl
        have hA4 := Below.alloc1 V5 (.cells #[.int .i64 id2, .int .i64 lg, .int .i64 fr, .int .i64 tt, .int .i64 (-1)] 31)
        have HG := hide (ownV_alloc V5 #[.int .i64 id2, .int .i64 lg, .int .i64 fr, .int .i64 tt, .int .i64 (-1)] 31)
        replace HR := hide ((unhide HR).below hA4)
        replace HC := hide ((unhide HC).below hA4)
        replace HK := hide ((unhide HK).trans (kept_of_below hA4))
        have hws := (unhide HK).size
        clear hA4 HX5
        go_upto_region 13 with (at_builtin; go_must (refine wpList_appRow tyCall _ rfl _ _ rfl w.heap.size ro m c L rfl (unhide HR) hws (by omega) V5.heap.size (id2, lg, fr, tt, -1) 1 rfl (unhide HG) ?_); intro g' cap' w6 hL hK6 hBg hat; have HR2 := hide hL; have HKK := hide hK6; clear hL hK6 hat)
        have hbk := rowB_blk (unhide HR) (by decide)
        have HC2 := hide ((unhide HC).kept (unhide HKK) (fun b hb => by have := hbk b hb; omega))
        have HK2 := hide ((unhide HK).own (unhide HKK) hbk)
        clear HKK hbk HR HC HK HG x0 x1 x2 x3 x4 hws
        obtain ⟨d, hd, ed⟩ := unhide HID
        have HD2 := hide ((unhide HD).next (d := d) (lg := lg) (fr := fr) (tt := tt) (by have := unhide HLM; omega) hd hlg1 ⟨hfr0, hfr1⟩ htt)
        rw [← ed] at HD2
        have hL1 : (L ++ [(id2, lg, fr, tt, -1)]).length = m + 1 := by have := unhide HLM; simp; omega
        obtain ⟨j, rfl⟩ : ∃ j, i = j + 1 := ⟨i - 1, by omega⟩
        have q5 : IntKind.i64.wrap (((j + 1 : Nat) : Int) - 1) = (j : Int) := by rw [IntKind.wrap_i64]; omega
        have q6 : ((j + 1 : Nat) : Int) - 1 = (j : Int) := by omega
        have HLA : Hid (ca (L ++ [(id2, lg, fr, tt, -1)]) m = (id2, lg, fr, tt, -1)) := by
          show _ = _
          rw [← unhide HLM]
          exact ca_last L _
        clear ed HID hd HD
        obtain ⟨L2, eL2⟩ : ∃ z, z = L ++ [(id2, lg, fr, tt, -1)] := ⟨_, rfl⟩
        rw [← eL2] at HD2 HR2 HLA hL1
        clear eL2
        have HLL := hide hL1
        clear hL1
        go_wp2_with fail
        refine (unhide QO _ (unhide HC2) 2 (by omega) (by omega)).mono ?_
        rintro e U6 ⟨q, rfl, hC, hK⟩
        have HC3 := hide hC
        have HR3 := hide ((unhide HR2).kept hK (fun g _ hg _ e => by have e : g = cb := e; omega))
        have HK3 := hide ((unhide HK2).trans hK)
        clear hC hK HR2 HC2 HK2
        cases q with
        | false =>
          go_wp2
          go_roundg j
          case measure => have := unhide HGI; omega
          case rel => exact ⟨j, m + 1, cap', _, L2, id2, by omega, rfl, by go_num, rfl, rfl, by omega, HD2, HR3, HC3, HK3⟩
        | true =>
          have hcl : clB long L2 = true := clB_iff.2 ⟨(unhide HD2).ok, (unhide HD2).nm⟩
          have hmL : m < L2.length := by have := unhide HLL; omega
          have Q5 := hide (specBerth_any _ long L2 id2 U6 ((unhide HR3).recs (by decide)))
          rw [berV_at (i := m) hcl hmL (by rw [unhide HLA]), unhide HLA] at Q5
          have HD3 := hide ((unhide HD2).put (by omega))
          rw [show L2.length - 1 = m by have := unhide HLL; omega, unhide HLA] at HD3
          generalize lbV long L2 (id2, lg, fr, tt, -1) = z at *
          replace HD3 : Hid (DqP long (L2.set m (id2, lg, fr, tt, z)) id2) := unhide HD3
          clear hcl
          go_wp2_with fail
          refine (unhide Q5).mono ?_
          rintro e U7 ⟨rfl, hbb⟩
          have HC4 := hide ((unhide HC3).below hbb)
          have HR4 := hide ((unhide HR3).below hbb)
          have HK4 := hide ((unhide HK3).trans (kept_of_below hbb))
          clear hbb Q5 HC3 HR3 HK3
          dsimp only
          by_cases hz : z = -1
          · rw [show decide (z ≠ -1) = false by simp [hz]]
            clear hz
            go_wp2
            go_roundg j
            case measure => have := unhide HGI; omega
            case rel => exact ⟨j, m + 1, cap', _, L2, id2, by omega, rfl, by go_num, rfl, rfl, by omega, HD2, HR4, HC4, HK4⟩
          · rw [show decide (z ≠ -1) = true by simp [hz]]
            have hoM : OwnV U7 g' (recCells 5 eCall L2) := by
              rcases (unhide HR4).parts (by decide) with ⟨e2, _⟩ | ⟨g, e2, _, _, _, _, ho⟩
              · cases e2
              · simp only [Option.some.injEq, Addr.mk.injEq, and_true] at e2; rw [e2]; exact ho
            have hcap : m + 1 ≤ cap' := by
              rcases (unhide HR4).parts (by decide) with ⟨e2, _⟩ | ⟨g, e2, _, _, h5, _, _⟩
              · cases e2
              · exact h5
            obtain ⟨-, -, -, -, c4⟩ := own_callQ hoM hmL (unhide HLA)
            have fz := hoM.frozen (m * 5 + 4)
            have HR5 := hide ((unhide HR4).set (i := m) (j := 4) (by omega) hmL (id2, lg, fr, tt, z) (.int .i64 z) rfl (fun j' h1 h2 => by
              have e9 : L2.getD m default = (id2, lg, fr, tt, -1) := unhide HLA
              rw [e9]
              have : j' = 0 ∨ j' = 1 ∨ j' = 2 ∨ j' = 3 := by omega
              rcases this with e | e | e | e <;> subst e <;> rfl))
            have hkp : Kept (fun b => b = g') U7 (U7.setCell ⟨g', m * 5 + 4, none⟩ (.int .i64 z)) := Kept.setCell (T := fun b => b = g') (Kept.refl _ U7) (p := ⟨g', m * 5 + 4, none⟩) rfl _
            have HC5 := hide ((unhide HC4).kept hkp (fun b hb => by have hb : b = g' := hb; omega))
            have HK5 := hide ((unhide HK4).own hkp (fun b hb => by have hb : b = g' := hb; omega))
            have q7 : IntKind.i64.wrap (((m + 1 : Nat) : Int) - 1) = (m : Int) := by rw [IntKind.wrap_i64]; omega
            have q8 : ((m + 1 : Nat) : Int) - 1 = (m : Int) := by omega
            have hmi1 : (m : Int) < ((m + 1 : Nat) : Int) := by omega
            clear hkp hoM hz HC4 HR4 HK4
            go_wp2
            go_roundg j
            case measure => have := unhide HGI; omega
            case rel => exact ⟨j, m + 1, cap', _, _, id2, by omega, rfl, by go_num, rfl, rfl, by omega, HD3, HR5, HC5, HK5⟩
      case neg =>
        have dl : decide (long < l0) = false := decide_eq_false hlg
        obtain ⟨V2, eV2⟩ : ∃ V, V = U3.alloc (.cells #[.int .i64 id2, .int .i64 l0, .int .i64 fr, .int .i64 0, .int .i64 (-1)] 31) := ⟨_, rfl⟩
        have hA3 : Below U3.heap.size U3 V2 := by rw [eV2]; exact Below.alloc1 _ _
        have HX : Hid (OwnV V2 gx [.int .i64 id2, .int .i64 l0, .int .i64 fr, .int .i64 0, .int .i64 (-1)]) := by show OwnV _ _ _; rw [eV2, egx]; exact ownV_alloc _ _ _
        replace HR := hide ((unhide HR).below hA3)
        replace HC := hide ((unhide HC).below hA3)
        replace HK := hide ((unhide HK).trans (kept_of_below hA3))
        go_upto_region 11 with (fail)
        rw [← eV2, ← egx]
        obtain ⟨lg, elg⟩ : ∃ z : Int, z = l0 := ⟨_, rfl⟩
        rw [← elg] at HX
        have hlg1 : 1 ≤ lg ∧ lg ≤ 50 := by omega
        clear elg eV2 hA3 egx dl q1 q2 q1b q2b hlg hl0
        have x2 := (unhide HX).cell (i := 2) rfl
        have xz := (unhide HX).cell (i := 3) rfl
        have xf := (unhide HX).frozen 3
        go_wp2
        have hd : Below V2.heap.size V2 V2.drew := (Below.refl _ _).drew
        replace HR := hide ((unhide HR).below hd)
        replace HC := hide ((unhide HC).below hd)
        replace HK := hide ((unhide HK).trans (kept_of_below hd))
        replace HX := hide ((unhide HX).step hd)
        clear hd x2 xz xf
        have x2 := (unhide HX).cell (i := 2) rfl
        have xz := (unhide HX).cell (i := 3) rfl
        have xf := (unhide HX).frozen 3
        go_region_held3 (fun w' => w'.cell? ⟨gx, 2, none⟩ = some (.int .i64 fr)) (first | go_keep | exact ((unhide HX).set 3 _ (by simp)).cell (i := 2) rfl) (first
          | (go_at_call 65; refine (unhide QB _ (unhide HC) 40 (by omega) (by omega)).mono ?_; rintro e U4 ⟨u, rfl, hu0, hu1, hC, hK⟩; replace HC := hide hC; replace HR := hide ((unhide HR).kept hK (fun g _ hg _ e => by have e : g = cb := e; omega)); replace HK := hide ((unhide HK).trans hK); replace HX := hide ((unhide HX).kept hK (fun e => by have e : gx = cb := e; omega)); clear hC hK x2 xz xf; have x2 := (unhide HX).cell (i := 2) rfl; have xz := (unhide HX).cell (i := 3) rfl; have xf := (unhide HX).frozen 3))
        clear x2 xz xf
        obtain ⟨tt, ett⟩ : ∃ z, z = fr + 1 + u := ⟨_, rfl⟩
        have q3 : IntKind.i64.wrap (IntKind.i64.wrap (fr + 1) + u) = tt := by rw [show IntKind.i64.wrap (fr + 1) = fr + 1 by rw [IntKind.wrap_i64]; omega, ← ett, IntKind.wrap_i64]; omega
        have htt : fr < tt ∧ tt ≤ 200 := by omega
        rw [q3]
        clear q3 ett
        obtain ⟨V5, eV5⟩ : ∃ V, V = U4.setCell ⟨gx, 3, none⟩ (.int .i64 tt) := ⟨_, rfl⟩
        have hkp : Kept (fun b => b = gx) U4 V5 := by rw [eV5]; exact Kept.setCell (T := fun b => b = gx) (Kept.refl _ U4) (p := ⟨gx, 3, none⟩) rfl _
        have HX5 : Hid (OwnV V5 gx [.int .i64 id2, .int .i64 lg, .int .i64 fr, .int .i64 tt, .int .i64 (-1)]) := by show OwnV _ _ _; rw [eV5]; exact (unhide HX).set 3 _ (by simp)
        replace HR := hide ((unhide HR).kept hkp (fun g e _ _ hb => by have hb : g = gx := hb; have := unhide HRG g e; omega))
        replace HC := hide ((unhide HC).kept hkp (fun b hb => by have hb : b = gx := hb; omega))
        replace HK := hide ((unhide HK).own hkp (fun b hb => by have hb : b = gx := hb; omega))
        rw [← eV5]
        clear eV5 hkp HX HRG
        have x0 := (unhide HX5).cell (i := 0) rfl
        have x1 := (unhide HX5).cell (i := 1) rfl
        have x2 := (unhide HX5).cell (i := 2) rfl
        have x3 := (unhide HX5).cell (i := 3) rfl
        have x4 := (unhide HX5).cell (i := 4) rfl
        have hA4 := Below.alloc1 V5 (.cells #[.int .i64 id2, .int .i64 lg, .int .i64 fr, .int .i64 tt, .int .i64 (-1)] 31)
        have HG := hide (ownV_alloc V5 #[.int .i64 id2, .int .i64 lg, .int .i64 fr, .int .i64 tt, .int .i64 (-1)] 31)
        replace HR := hide ((unhide HR).below hA4)
        replace HC := hide ((unhide HC).below hA4)
        replace HK := hide ((unhide HK).trans (kept_of_below hA4))
        have hws := (unhide HK).size
        clear hA4 HX5
        go_upto_region 13 with (at_builtin; go_must (refine wpList_appRow tyCall _ rfl _ _ rfl w.heap.size ro m c L rfl (unhide HR) hws (by omega) V5.heap.size (id2, lg, fr, tt, -1) 1 rfl (unhide HG) ?_); intro g' cap' w6 hL hK6 hBg hat; have HR2 := hide hL; have HKK := hide hK6; clear hL hK6 hat)
        have hbk := rowB_blk (unhide HR) (by decide)
        have HC2 := hide ((unhide HC).kept (unhide HKK) (fun b hb => by have := hbk b hb; omega))
        have HK2 := hide ((unhide HK).own (unhide HKK) hbk)
        clear HKK hbk HR HC HK HG x0 x1 x2 x3 x4 hws
        obtain ⟨d, hd, ed⟩ := unhide HID
        have HD2 := hide ((unhide HD).next (d := d) (lg := lg) (fr := fr) (tt := tt) (by have := unhide HLM; omega) hd hlg1 ⟨hfr0, hfr1⟩ htt)
        rw [← ed] at HD2
        have hL1 : (L ++ [(id2, lg, fr, tt, -1)]).length = m + 1 := by have := unhide HLM; simp; omega
        obtain ⟨j, rfl⟩ : ∃ j, i = j + 1 := ⟨i - 1, by omega⟩
        have q5 : IntKind.i64.wrap (((j + 1 : Nat) : Int) - 1) = (j : Int) := by rw [IntKind.wrap_i64]; omega
        have q6 : ((j + 1 : Nat) : Int) - 1 = (j : Int) := by omega
        have HLA : Hid (ca (L ++ [(id2, lg, fr, tt, -1)]) m = (id2, lg, fr, tt, -1)) := by
          show _ = _
          rw [← unhide HLM]
          exact ca_last L _
        clear ed HID hd HD
        obtain ⟨L2, eL2⟩ : ∃ z, z = L ++ [(id2, lg, fr, tt, -1)] := ⟨_, rfl⟩
        rw [← eL2] at HD2 HR2 HLA hL1
        clear eL2
        have HLL := hide hL1
        clear hL1
        go_wp2_with fail
        refine (unhide QO _ (unhide HC2) 2 (by omega) (by omega)).mono ?_
        rintro e U6 ⟨q, rfl, hC, hK⟩
        have HC3 := hide hC
        have HR3 := hide ((unhide HR2).kept hK (fun g _ hg _ e => by have e : g = cb := e; omega))
        have HK3 := hide ((unhide HK2).trans hK)
        clear hC hK HR2 HC2 HK2
        cases q with
        | false =>
          go_wp2
          go_roundg j
          case measure => have := unhide HGI; omega
          case rel => exact ⟨j, m + 1, cap', _, L2, id2, by omega, rfl, by go_num, rfl, rfl, by omega, HD2, HR3, HC3, HK3⟩
        | true =>
          have hcl : clB long L2 = true := clB_iff.2 ⟨(unhide HD2).ok, (unhide HD2).nm⟩
          have hmL : m < L2.length := by have := unhide HLL; omega
          have Q5 := hide (specBerth_any _ long L2 id2 U6 ((unhide HR3).recs (by decide)))
          rw [berV_at (i := m) hcl hmL (by rw [unhide HLA]), unhide HLA] at Q5
          have HD3 := hide ((unhide HD2).put (by omega))
          rw [show L2.length - 1 = m by have := unhide HLL; omega, unhide HLA] at HD3
          generalize lbV long L2 (id2, lg, fr, tt, -1) = z at *
          replace HD3 : Hid (DqP long (L2.set m (id2, lg, fr, tt, z)) id2) := unhide HD3
          clear hcl
          go_wp2_with fail
          refine (unhide Q5).mono ?_
          rintro e U7 ⟨rfl, hbb⟩
          have HC4 := hide ((unhide HC3).below hbb)
          have HR4 := hide ((unhide HR3).below hbb)
          have HK4 := hide ((unhide HK3).trans (kept_of_below hbb))
          clear hbb Q5 HC3 HR3 HK3
          dsimp only
          by_cases hz : z = -1
          · rw [show decide (z ≠ -1) = false by simp [hz]]
            clear hz
            go_wp2
            go_roundg j
            case measure => have := unhide HGI; omega
            case rel => exact ⟨j, m + 1, cap', _, L2, id2, by omega, rfl, by go_num, rfl, rfl, by omega, HD2, HR4, HC4, HK4⟩
          · rw [show decide (z ≠ -1) = true by simp [hz]]
            have hoM : OwnV U7 g' (recCells 5 eCall L2) := by
              rcases (unhide HR4).parts (by decide) with ⟨e2, _⟩ | ⟨g, e2, _, _, _, _, ho⟩
              · cases e2
              · simp only [Option.some.injEq, Addr.mk.injEq, and_true] at e2; rw [e2]; exact ho
            have hcap : m + 1 ≤ cap' := by
              rcases (unhide HR4).parts (by decide) with ⟨e2, _⟩ | ⟨g, e2, _, _, h5, _, _⟩
              · cases e2
              · exact h5
            obtain ⟨-, -, -, -, c4⟩ := own_callQ hoM hmL (unhide HLA)
            have fz := hoM.frozen (m * 5 + 4)
            have HR5 := hide ((unhide HR4).set (i := m) (j := 4) (by omega) hmL (id2, lg, fr, tt, z) (.int .i64 z) rfl (fun j' h1 h2 => by
              have e9 : L2.getD m default = (id2, lg, fr, tt, -1) := unhide HLA
              rw [e9]
              have : j' = 0 ∨ j' = 1 ∨ j' = 2 ∨ j' = 3 := by omega
              rcases this with e | e | e | e <;> subst e <;> rfl))
            have hkp : Kept (fun b => b = g') U7 (U7.setCell ⟨g', m * 5 + 4, none⟩ (.int .i64 z)) := Kept.setCell (T := fun b => b = g') (Kept.refl _ U7) (p := ⟨g', m * 5 + 4, none⟩) rfl _
            have HC5 := hide ((unhide HC4).kept hkp (fun b hb => by have hb : b = g' := hb; omega))
            have HK5 := hide ((unhide HK4).own hkp (fun b hb => by have hb : b = g' := hb; omega))
            have q7 : IntKind.i64.wrap (((m + 1 : Nat) : Int) - 1) = (m : Int) := by rw [IntKind.wrap_i64]; omega
            have q8 : ((m + 1 : Nat) : Int) - 1 = (m : Int) := by omega
            have hmi1 : (m : Int) < ((m + 1 : Nat) : Int) := by omega
            clear hkp hoM hz HC4 HR4 HK4
            go_wp2
            go_roundg j
            case measure => have := unhide HGI; omega
            case rel => exact ⟨j, m + 1, cap', _, _, id2, by omega, rfl, by go_num, rfl, rfl, by omega, HD3, HR5, HC5, HK5⟩
    · obtain rfl : i = 0 := by omega
      go_wp2
      refine bodyPost_ret (v := .tuple #[.int .i64 long, .slice ro m c]) (by simp [results, Try.results53, go_sem]) rfl ⟨long, _, _, _, L, id, rfl, unhide HR, unhide HD, unhide HC, unhide HK⟩

set_option maxRecDepth 100000 in
set_option maxHeartbeats 4000000 in
theorem drawQuay_any (v : Value) (n : Nat) (w : World) (h : BytesIn w.heap.size w v n) (hn : n ≤ 1048576) :
    Calls Try.prog 15 #[v] w fun e w' => ∃ long ao m c L, e = .returned (.tuple #[.int .i64 long, .slice ao m c]) ∧ RCall w' (.slice ao m c) L ∧ CaP long L ∧ NoMeet L ∧ Below w.heap.size w w' := by
  have HB := hide h
  have QC0 := hide fun cb W (hW : Cur W cb v n) => l17DrawCalls_any cb n v W hW hn
  clear h
  go_enter Try.func15, Try.ntmps15
  go_wp2_with fail
  refine (l1New_any v n w (unhide HB) hn).mono ?_
  rintro e W0 ⟨rfl, hC0, hB0, hs0⟩
  have HC := hide hC0
  have HW := hide hB0
  clear hC0 hB0 HB
  go_wp2_with fail
  refine (unhide QC0 w.heap.size _ (unhide HC)).mono ?_
  rintro e W1 ⟨long, ao, m, c, L, id, rfl, hR, hD, hC, hK⟩
  have hwb := (unhide HW).size
  have HW1 := hide ((unhide HW).trans (hK.below hwb fun b e => by have e : b = w.heap.size := e; omega))
  have HR := hide (hR.recs (by decide))
  have HD := hide hD
  clear hR hD hC hK hwb HC HW QC0
  go_wp2
  refine bodyPost_ret (v := .tuple #[.int .i64 long, .slice ao m c]) (by simp [results, Try.results15, go_sem]) rfl ⟨long, _, _, _, L, rfl, unhide HR, (unhide HD).ok, (unhide HD).nm, unhide HW1⟩

end Go.Proofs.Ytogoknldhimgfaa

namespace Go.Proofs.Ytogoknldhimgfaa
open Go.RowKit

theorem eCall_at (x0 x1 x2 x3 x4 y : Int) : ∀ j', j' < 5 → j' ≠ 4 → eCall (x0, x1, x2, x3, y) j' = eCall (x0, x1, x2, x3, x4) j' := fun j' h1 h2 => by
  have : j' = 0 ∨ j' = 1 ∨ j' = 2 ∨ j' = 3 := by omega
  rcases this with e | e | e | e <;> subst e <;> rfl
/-- A call of a row of the call's own. -/
theorem own_call {w : World} {g i : Nat} {M : List CallT} (h : OwnV w g (recCells 5 eCall M)) (hi : i < M.length) {x0 x1 x2 x3 x4 : Int} (e : ca M i = (x0, x1, x2, x3, x4)) :
    w.cell? ⟨g, i * 5, none⟩ = some (.int .i64 x0) ∧ w.cell? ⟨g, i * 5 + 1, none⟩ = some (.int .i64 x1) ∧ w.cell? ⟨g, i * 5 + 2, none⟩ = some (.int .i64 x2) ∧ w.cell? ⟨g, i * 5 + 3, none⟩ = some (.int .i64 x3) ∧ w.cell? ⟨g, i * 5 + 4, none⟩ = some (.int .i64 x4) := by
  have e : M.getD i default = (x0, x1, x2, x3, x4) := e
  have f : ∀ j, j < 5 → w.cell? ⟨g, i * 5 + j, none⟩ = some (eCall (x0, x1, x2, x3, x4) j) := fun j hj => by rw [← e]; exact h.cell (recCells_get hi hj)
  exact ⟨f 0 (by omega), f 1 (by omega), f 2 (by omega), f 3 (by omega), f 4 (by omega)⟩
theorem own_setAt {w : World} {g i : Nat} {M : List CallT} (h : OwnV w g (recCells 5 eCall M)) (hi : i < M.length) {x0 x1 x2 x3 x4 : Int} (e : ca M i = (x0, x1, x2, x3, x4)) (y : Int) : OwnV (w.setCell ⟨g, i * 5 + 4, none⟩ (.int .i64 y)) g (recCells 5 eCall (M.set i (x0, x1, x2, x3, y))) := by
  have h2 := h.set (i * 5 + 4) (.int .i64 y) (by rw [recCells_length]; omega)
  have h3 := recG_set (n := 5) (enc := eCall) M (i := i) (j := 4) (by omega) hi (x0, x1, x2, x3, y) (fun j' h1 h2 => by
    have e : M.getD i default = (x0, x1, x2, x3, x4) := e
    rw [e]
    exact eCall_at _ _ _ _ _ _ j' h1 h2)
  rw [← h3]
  exact h2

set_option maxRecDepth 100000 in
set_option maxHeartbeats 8000000 in
theorem implBerthAll_any (v : Value) (long : Int) (L : List CallT) (w : World) (h : RCall w v L) :
    Calls Try.prog 16 #[.int .i64 long, v] w (BaAns w (baV long L).1 (baV long L).2) := by
  have Q1 := hide (implClear17_any v long L w h)
  have HR := hide fun V (hV : Below w.heap.size w V) => h.below hV
  obtain ⟨ao, cap, rfl, hl, hmx, -⟩ := h
  unfold maxLen at hmx
  cases hb : clB long L with
  | false =>
    have HF := hide (baV_no hb)
    rw [hb] at Q1
    generalize baV long L = V at *
    go_enter Try.func16, Try.ntmps16
    go_wp2_with fail
    refine (unhide Q1).mono ?_
    rintro e w1 ⟨rfl, hbb⟩
    have HW := hide hbb
    clear hbb Q1 hb
    go_wp2
    refine bodyPost_ret (v := .tuple #[.slice none 0 0, .bool false]) (by simp [results, Try.results16, go_sem]) rfl ?_
    show BaAns _ _ _ _ _
    rw [unhide HF]
    exact ⟨none, 0, 0, rfl, ⟨none, 0, rfl, Nat.le_refl _, Nat.zero_le _, fun h => absurd rfl h⟩, unhide HW⟩
  | true =>
  have hPN := clB_iff.1 hb
  have HPN := hide hPN
  have hN := hPN.1.1
  have h24 := hPN.1.2.1
  have HBV := hide fun E (hT : Turn L E) => baV_yes hb hT
  rw [hb] at Q1
  clear hPN hb
  obtain ⟨N, rfl⟩ : ∃ N : Nat, long = N := ⟨long.toNat, by omega⟩
  have Q2 := hide fun V (hV : Below w.heap.size w V) => ownCopyCall_any ao L.length cap L V (unhide HR V hV) (by omega)
  have Q3 := hide fun g V (hV : OwnV V g (recCells 5 eCall L)) => inTurn_any (some ⟨g, 0, none⟩) L.length L.length L V (OwnV.recsIn hV (Nat.le_refl _) (by unfold maxLen; omega)) h24
  generalize baV (N : Int) L = VV at *
  go_enter Try.func16, Try.ntmps16
  go_wp2_with fail
  refine (unhide Q1).mono ?_
  rintro e w1 ⟨rfl, hbb⟩
  have HW := hide hbb
  clear hbb Q1
  go_wp2_with fail
  refine (unhide Q2 _ (unhide HW)).mono ?_
  rintro e w2 ⟨rfl, ho, hbb⟩
  have hg0 := (unhide HW).size
  obtain ⟨go, ego⟩ : ∃ g, g = w1.heap.size := ⟨_, rfl⟩
  rw [← ego] at ho ⊢
  have HO := hide ho
  have hgo := ho.lt
  have hgw : w.heap.size ≤ go := by omega
  replace HW := hide (Below.step (unhide HW) hbb)
  clear ho hbb ego hg0 Q2
  go_wp2_with fail
  refine (unhide Q3 _ _ (unhide HO)).mono ?_
  rintro e w3 ⟨ge, E, rfl, hge, hoE, hT, hbb⟩
  have hgg : go < ge := by omega
  have HE := hide hoE
  have HT := hide hT
  have HEL := hide hT.len
  have HO0 : Hid (OwnV w3 go (recCells 5 eCall (ba (N : Int) L E 0))) := (unhide HO).step hbb
  replace HW := hide (Below.step (unhide HW) hbb)
  replace HBV := hide (unhide HBV E hT)
  clear hbb Q3 hoE hT HO hge hgo
  generalize hw9 : w3 = w9 at *
  clear hw9
  go_wp2
  go_loopg [18] L.length (fun g kv wr => ∃ k : Nat, k ≤ L.length ∧ g = L.length - k ∧ kv = .int .i64 (k : Int) ∧ Hid (OwnV wr go (recCells 5 eCall (ba (N : Int) L E k))) ∧ Hid (OwnV wr ge (ints E)) ∧ Hid (Below w.heap.size w wr))
  case atStart => exact ⟨0, Nat.zero_le _, rfl, rfl, HO0, HE, HW⟩
  case round =>
    clear HO0 HE HW
    obtain ⟨k, hk, rfl, rfl, HO, HE, HW⟩ := hrel
    have hbl := ba_len (N : Int) L E k
    by_cases hkn : k < L.length
    · obtain ⟨hi, ei⟩ := (unhide HT).lt hkn
      have ck := (unhide HE).cell (ints_atA (M := E) (p := k) (by rw [unhide HEL]; exact hkn))
      rw [ei] at ck
      obtain ⟨hP2, -⟩ := ba_ok (unhide HT) (unhide HPN).1 (unhide HPN).2 hk
      have HNX : Hid (ba (N : Int) L E (k + 1) = if cAt (ca (ba (N : Int) L E k) (eN E k)) = -1 then (ba (N : Int) L E k).set (eN E k) (setAt (ca (ba (N : Int) L E k) (eN E k)) (lbV (N : Int) (ba (N : Int) L E k) (ca (ba (N : Int) L E k) (eN E k)))) else ba (N : Int) L E k) := rfl
      generalize ba (N : Int) L E k = M at *
      generalize eN E k = i at *
      clear ei
      have hiM : i < M.length := by omega
      have hcs := (hP2.2.2 i hiM).2.1.1
      have HP2 := hide hP2
      obtain ⟨⟨x0, x1, x2, x3, x4⟩, ex⟩ : ∃ x, x = ca M i := ⟨_, rfl⟩
      have ex := ex.symm
      rw [ex] at HNX hcs
      obtain ⟨c0, c1, c2, c3, c4⟩ := own_call (unhide HO) hiM ex
      have hx1 : 1 ≤ x1 ∧ x1 ≤ 1000 := hcs
      have hki : (k : Int) < L.length := by omega
      have hii : (i : Int) < L.length := by omega
      have fz := (unhide HO).frozen (i * 5 + 4)
      have HEX := hide ex
      have HBL := hide hbl
      clear ex hP2 hcs hbl
      by_cases h4 : x4 = -1
      · have d4 : (x4 == -1) = true := by simp [h4]
        replace HNX : Hid (ba (N : Int) L E (k + 1) = M.set i (x0, x1, x2, x3, lbV (N : Int) M (x0, x1, x2, x3, x4))) := by show _ = _; rw [unhide HNX, if_pos (show cAt (x0, x1, x2, x3, x4) = -1 from h4)]; rfl
        have Q4 := hide (leastBerth_any N (.slice (some ⟨go, 0, none⟩) L.length L.length) M x0 x1 x2 x3 x4 wr (by rw [← unhide HBL]; exact OwnV.recsIn (unhide HO) (Nat.le_refl _) (by have := unhide HBL; unfold maxLen; omega)) (unhide HP2) hx1)
        generalize lbV (N : Int) M (x0, x1, x2, x3, x4) = z at *
        clear h4
        unfold vCall at Q4
        go_wp2_with fail
        refine (unhide Q4).mono ?_
        rintro e w4 ⟨rfl, hbb⟩
        have HO1 := hide ((unhide HO).step hbb)
        have HE1 := hide ((unhide HE).step hbb)
        have HW1 := hide (Below.step (unhide HW) hbb)
        clear hbb Q4 c0 c1 c2 c3 c4 fz HO HE HW
        obtain ⟨-, -, -, -, c4⟩ := own_call (unhide HO1) hiM (unhide HEX)
        have fz := (unhide HO1).frozen (i * 5 + 4)
        have HO2 := hide (own_setAt (unhide HO1) hiM (unhide HEX) z)
        rw [← unhide HNX] at HO2
        have HE2 := hide ((unhide HE1).other (a := ⟨go, i * 5 + 4, none⟩) (by show ge ≠ go; omega) (.int .i64 z))
        have HW2 := hide ((unhide HW1).setCell (p := ⟨go, i * 5 + 4, none⟩) hgw (.int .i64 z))
        clear HO1 HE1 HW1
        go_wp2
        go_roundg (L.length - (k + 1))
        case measure => omega
        case rel => exact ⟨k + 1, by omega, rfl, by go_num, HO2, HE2, HW2⟩
      · have d4 : (x4 == -1) = false := by simp [h4]
        replace HNX : Hid (ba (N : Int) L E (k + 1) = M) := by show _ = _; rw [unhide HNX, if_neg (show ¬ cAt (x0, x1, x2, x3, x4) = -1 from h4)]
        clear h4
        go_wp2
        go_roundg (L.length - (k + 1))
        case measure => omega
        case rel => exact ⟨k + 1, by omega, rfl, by go_num, by rw [unhide HNX]; exact HO, HE, HW⟩
    · obtain rfl : k = L.length := by omega
      generalize hM : ba (N : Int) L E L.length = M at *
      clear hM
      go_wp2
      refine bodyPost_ret (v := .tuple #[.slice (some ⟨go, 0, none⟩) L.length L.length, .bool true]) (by simp [results, Try.results16, go_sem]) rfl ?_
      show BaAns _ _ _ _ _
      rw [unhide HBV]
      refine ⟨_, _, _, rfl, ?_, unhide HW⟩
      rw [← hbl]
      exact ownR_copy (unhide HO) hgw (by omega)

end Go.Proofs.Ytogoknldhimgfaa

namespace Go.Proofs.Ytogoknldhimgfaa
open Go.RowKit

/-- A row of n bools. -/
def bo (n : Nat) (H : Nat → Bool) : List Value := (List.range n).map (fun i => Value.bool (H i))
theorem bo_len (n : Nat) (H : Nat → Bool) : (bo n H).length = n := by simp [bo]
theorem bo_at {n i : Nat} {H : Nat → Bool} (h : i < n) : (bo n H)[i]? = some (.bool (H i)) := by simp [bo, h]
theorem bo_set {n k : Nat} {H : Nat → Bool} (b : Bool) (h : k < n) : (bo n H).set k (.bool b) = bo n (fun i => if i = k then b else H i) := by
  apply List.ext_getElem?
  intro i
  by_cases hi : i < n
  · rw [List.getElem?_set, bo_at (H := fun i => if i = k then b else H i) hi]
    by_cases e : k = i
    · subst e; rw [if_pos rfl, if_pos (by rw [bo_len]; exact h), if_pos rfl]
    · rw [if_neg e, bo_at hi, if_neg (fun e' => e e'.symm)]
  · rw [List.getElem?_eq_none (by rw [List.length_set, bo_len]; omega), List.getElem?_eq_none (by rw [bo_len]; omega)]
theorem bo_made' (n : Nat) : (madeCells #[Value.bool false] n).toList = bo n (fun _ => false) := by
  unfold bo madeCells
  simp [Nat.mod_one]
theorem onRow17 {B : Nat} {w W w' : World} {ao : Option Addr} {m cap : Nat} {L : List CallT} (hW : Below B w W) (h : RowB 31 5 eCall B W ao m cap L) (hB : B ≤ W.heap.size) (hK : Kept (fun k => ao = some ⟨k, 0, none⟩) W w') : Below B w w' :=
  hW.trans (hK.below hB (rowB_blk h (by decide)))
theorem OwnRU.ownR {α : Type} [Inhabited α] {n : Nat} {enc : α → Nat → Value} {B U : Nat} {w : World} {v : Value} {L : List α} (h : OwnRU n enc B U w v L) : OwnR n enc B w v L := by
  obtain ⟨ao, cap, rfl, h1, h2, h3⟩ := h
  refine ⟨ao, cap, rfl, h1, h2, fun hne => ?_⟩
  obtain ⟨g, e, hg, _, ho⟩ := h3 hne
  exact ⟨g, e, hg, ho⟩
/-- Who is a candidate, by the row asked. -/
def CdH (L : List CallT) (H : Nat → Bool) (i : Nat) : Prop := i < L.length ∧ cAt (ca L i) < 0 ∧ H i = false
/-- The best of the first t. -/
def BstP (L : List CallT) (H : Nat → Bool) (t : Nat) (z : Int) : Prop := (z = -1 ∧ ∀ i, i < t → ¬ CdH L H i) ∨ ∃ b : Nat, z = (b : Int) ∧ b < t ∧ CdH L H b ∧ ∀ i, i < t → CdH L H i → cFr (ca L b) ≤ cFr (ca L i) ∧ (i < b → cFr (ca L b) < cFr (ca L i))
theorem BstP.skip {L : List CallT} {H : Nat → Bool} {t : Nat} {z : Int} (h : BstP L H t z) (hn : ¬ CdH L H t) : BstP L H (t + 1) z := by
  rcases h with ⟨h1, h2⟩ | ⟨b, h1, h2, h3, h4⟩
  · refine Or.inl ⟨h1, fun i hi hc => ?_⟩
    by_cases e : i = t
    · subst e; exact hn hc
    · exact h2 i (by omega) hc
  · refine Or.inr ⟨b, h1, by omega, h3, fun i hi hc => ?_⟩
    by_cases e : i = t
    · subst e; exact absurd hc hn
    · exact h4 i (by omega) hc
theorem BstP.first {L : List CallT} {H : Nat → Bool} {t : Nat} (h : ∀ i, i < t → ¬ CdH L H i) (hc : CdH L H t) : BstP L H (t + 1) (t : Int) := by
  refine Or.inr ⟨t, rfl, by omega, hc, fun i hi hci => ?_⟩
  by_cases e : i = t
  · subst e; exact ⟨Int.le_refl _, fun h => by omega⟩
  · exact absurd hci (h i (by omega))
theorem BstP.new {L : List CallT} {H : Nat → Bool} {t b : Nat} (h4 : ∀ i, i < t → CdH L H i → cFr (ca L b) ≤ cFr (ca L i) ∧ (i < b → cFr (ca L b) < cFr (ca L i))) (hc : CdH L H t) (hl : cFr (ca L t) < cFr (ca L b)) : BstP L H (t + 1) (t : Int) := by
  refine Or.inr ⟨t, rfl, by omega, hc, fun i hi hci => ?_⟩
  by_cases e : i = t
  · subst e; exact ⟨Int.le_refl _, fun h => by omega⟩
  · have := h4 i (by omega) hci
    omega
theorem BstP.old {L : List CallT} {H : Nat → Bool} {t b : Nat} (hb : b < t) (h3 : CdH L H b) (h4 : ∀ i, i < t → CdH L H i → cFr (ca L b) ≤ cFr (ca L i) ∧ (i < b → cFr (ca L b) < cFr (ca L i))) (hl : ¬ cFr (ca L t) < cFr (ca L b)) : BstP L H (t + 1) (b : Int) := by
  refine Or.inr ⟨b, rfl, by omega, h3, fun i hi hci => ?_⟩
  by_cases e : i = t
  · subst e; exact ⟨by omega, fun h => by omega⟩
  · exact h4 i (by omega) hci
theorem set_self {M : List CallT} {b : Nat} (hb : b < M.length) : M.set b (ca M b) = M := by
  rw [show ca M b = M[b] from getD_lt hb]
  exact List.set_getElem_self hb
/-- The next one is asked. -/
theorem ba_pick {long : Int} {L : List CallT} {E : List Int} {H : Nat → Bool} {k b : Nat} (hT : Turn L E) (hP : CaP long L) (hC : ∀ i, CandP L E k i ↔ CdH L H i) (hb : CdH L H b) (hm : ∀ i, CdH L H i → cFr (ca L b) ≤ cFr (ca L i) ∧ (i < b → cFr (ca L b) < cFr (ca L i))) :
    ∃ k', k < k' ∧ k' ≤ L.length ∧ cAt (ca (ba long L E k) b) = -1 ∧ ba long L E k' = (ba long L E k).set b (setAt (ca (ba long L E k) b) (lbV long (ba long L E k) (ca (ba long L E k) b))) ∧ ∀ i, CandP L E k' i ↔ CdH L (fun i => if i = b then true else H i) i := by
  obtain ⟨p, p1, p2, p3, p4, p5⟩ := cand_pick (long := long) hT hP ((hC b).2 hb) (fun i hi => hm i ((hC i).1 hi))
  have e1 : cAt (ca (ba long L E k) b) = -1 := by
    rw [← p4, ← p3, ba_at hT p2, p3]
    have h1 := (hP.2.2 b hb.1).2.1.2.2
    have h2 := hb.2.1
    omega
  refine ⟨p + 1, by omega, by omega, e1, ?_, fun i => ?_⟩
  · have e2 : ba long L E (p + 1) = if cAt (ca (ba long L E p) (eN E p)) = -1 then (ba long L E p).set (eN E p) (setAt (ca (ba long L E p) (eN E p)) (lbV long (ba long L E p) (ca (ba long L E p) (eN E p)))) else ba long L E p := rfl
    rw [e2, p4, p3, if_pos e1]
  · constructor
    · intro h
      have h1 := (p5 i h.1).2 h
      have h2 := (hC i).1 h1.1
      exact ⟨h2.1, h2.2.1, (if_neg h1.2).trans h2.2.2⟩
    · intro h
      have hne : i ≠ b := fun e => by have h9 : (if i = b then true else H i) = false := h.2.2; rw [if_pos e] at h9; cases h9
      have h3 : H i = false := by have h9 : (if i = b then true else H i) = false := h.2.2; rw [if_neg hne] at h9; exact h9
      exact (p5 i h.1).1 ⟨(hC i).2 ⟨h.1, h.2.1, h3⟩, hne⟩

end Go.Proofs.Ytogoknldhimgfaa

namespace Go.Proofs.Ytogoknldhimgfaa
open Go.RowKit

theorem Try.infoBool17 : (Try.prog.info? 4).map (fun i => (i.zero, i.size, i.bytes)) = some (some (Value.bool false), 1, 1) := by kernel_rfl

set_option maxRecDepth 100000 in
set_option maxHeartbeats 8000000 in
theorem specBerthAll_any (v : Value) (long : Int) (L : List CallT) (w : World) (h : RCall w v L) :
    Calls Try.prog 32 #[.int .i64 long, v] w (BaAns w (baV long L).1 (baV long L).2) := by
  have Q1 := hide (specClear17_any v long L w h)
  have HR := hide fun V (hV : Below w.heap.size w V) => h.below hV
  obtain ⟨ao, cap, rfl, hl, hmx, -⟩ := h
  unfold maxLen at hmx
  cases hb : clB long L with
  | false =>
    have HF := hide (baV_no hb)
    rw [hb] at Q1
    generalize baV long L = V at *
    go_enter Try.func32, Try.ntmps32
    go_wp2_with fail
    refine (unhide Q1).mono ?_
    rintro e w1 ⟨rfl, hbb⟩
    have HW := hide (Below.step hbb (Below.alloc1 w1 (.cells #[] 31)))
    clear hbb Q1 hb
    go_wp2
    refine bodyPost_ret (v := .tuple #[.slice (some ⟨w1.heap.size, 0, none⟩) 0 0, .bool false]) (by simp [results, Try.results32, go_sem]) rfl ?_
    show BaAns _ _ _ _ _
    rw [unhide HF]
    exact ⟨_, 0, 0, rfl, ⟨_, 0, rfl, Nat.le_refl _, Nat.zero_le _, fun h => absurd rfl h⟩, unhide HW⟩
  | true =>
  have hPN := clB_iff.1 hb
  have HPN := hide hPN
  have hN := hPN.1.1
  have h24 := hPN.1.2.1
  obtain ⟨E, hT⟩ := turn_ex L
  have HT := hide hT
  have HBV := hide (baV_yes hb hT)
  rw [hb] at Q1
  clear hPN hb hT
  obtain ⟨N, rfl⟩ : ∃ N : Nat, long = N := ⟨long.toNat, by omega⟩
  have hmk := run_make_row' (P := Try.prog) 99 4 (.bool false) 1 Try.underlying99 Try.infoBool17 rfl .i64 .i64 L.length (by omega) (by omega)
  generalize baV (N : Int) L = VV at *
  go_enter Try.func32, Try.ntmps32
  go_wp2_with fail
  refine (unhide Q1).mono ?_
  rintro e w1 ⟨rfl, hbb⟩
  have hA := Below.alloc1 w1 (.cells #[] 31)
  have HW0 := hide (Below.step hbb hA)
  have hws0 := (unhide HW0).size
  have HN := hide (rowB_new 31 5 eCall w1 w.heap.size hbb.size)
  have HRL0 := hide (unhide HR _ (unhide HW0))
  clear hbb Q1 hA
  go_upto_region 4 with (at_builtin; go_must (refine wpList_appAll tyCall _ rfl _ _ rfl w.heap.size (some ⟨w1.heap.size, 0, none⟩) 0 0 [] rfl (unhide HN) hws0 (by omega) ao L.length cap L rfl (unhide HRL0) (by omega) ?_); intro sa sc wa hL hK; have HO0 : Hid (RowB 31 5 eCall w.heap.size wa sa (0 + L.length) sc L) := hL; have HW := hide (onRow17 (unhide HW0) (unhide HN) hws0 hK); clear hL hK)
  rw [Nat.zero_add] at HO0
  clear HN HRL0 HW0 hws0
  have HO1 := hide ((unhide HO0).uptoR (by decide))
  clear HO0
  have hA := Below.alloc1 wa (.cells (madeCells #[Value.bool false] L.length) 4)
  have HA0 : Hid (OwnV (wa.alloc (.cells (madeCells #[Value.bool false] L.length) 4)) wa.heap.size (bo L.length (fun _ => false))) := by
    show OwnV _ _ _
    rw [← bo_made']
    exact ownV_alloc wa _ _
  have HO2 := hide ((unhide HO1).below hA)
  have HW2 := hide (Below.step (unhide HW) hA)
  obtain ⟨ga, ega⟩ : ∃ g, g = wa.heap.size := ⟨_, rfl⟩
  have hga := (unhide HW).size
  go_wp2
  clear hmk
  rw [← ega] at HA0 HO2 hga ⊢
  generalize wa.alloc (.cells (madeCells #[Value.bool false] L.length) 4) = w9 at *
  clear HO1 HW hA ega
  have hcap : L.length ≤ sc ∧ sc ≤ 9223372036854775807 := by
    obtain ⟨ao', cap', e', h1, h2, -⟩ := unhide HO2
    simp only [Value.slice.injEq] at e'
    obtain ⟨-, -, rfl⟩ := e'
    unfold maxLen at h2
    omega
  go_loopg [8] L.length (fun g bv wr => ∃ (k : Nat) (H : Nat → Bool), k ≤ L.length ∧ g = L.length - k ∧ bv = bv ∧ Hid (∀ i, CandP L E k i ↔ CdH L H i) ∧ Hid (OwnRU 5 eCall w.heap.size ga wr (.slice sa L.length sc) (ba (N : Int) L E k)) ∧ Hid (OwnV wr ga (bo L.length H)) ∧ Hid (Below w.heap.size w wr))
  case atStart => exact ⟨0, fun _ => false, Nat.zero_le _, rfl, rfl, fun i => ⟨fun h => ⟨h.1, h.2.1, rfl⟩, fun h => ⟨h.1, h.2.1, fun p hp => by omega⟩⟩, HO2, HA0, HW2⟩
  case round =>
    clear HO2 HA0 HW2
    obtain ⟨k, H, hk, rfl, -, HC, HO, HA, HW⟩ := hrel
    have HMF : Hid (∀ i, ∃ a, ca (ba (N : Int) L E k) i = setAt (ca L i) a) := ba_like (unhide HT) hk
    have HML := hide (ba_len (N : Int) L E k)
    have HOK := hide (ba_ok (unhide HT) (unhide HPN).1 (unhide HPN).2 hk)
    have HPK := hide fun b h1 h2 => ba_pick (b := b) (unhide HT) (unhide HPN).1 (unhide HC) h1 h2
    have HNN := hide fun h => cand_none (long := (N : Int)) (unhide HT) hk h
    generalize ba (N : Int) L E k = M at *
    generalize hwo : wr = wo at *
    clear hwo
    go_wp2
    go_loopg [8, 9] L.length (fun g bv iv wr => ∃ (t : Nat) (z : Int), t ≤ L.length ∧ g = L.length - t ∧ iv = .int .i64 (t : Int) ∧ bv = .int .i64 z ∧ Hid (BstP L H t z) ∧ Hid (OwnRU 5 eCall w.heap.size ga wr (.slice sa L.length sc) M) ∧ Hid (OwnV wr ga (bo L.length H)) ∧ Hid (Below w.heap.size w wr))
    case atStart => exact ⟨0, -1, Nat.zero_le _, rfl, rfl, rfl, Or.inl ⟨rfl, fun i hi => by omega⟩, HO, HA, HW⟩
    case round =>
      clear HO HA HW
      obtain ⟨t, z, ht, rfl, rfl, rfl, HB, HO, HA, HW⟩ := hrel
      by_cases htn : t < L.length
      · have hti : (t : Int) < L.length := by omega
        have gsome := gr_some wr
        obtain ⟨ao', cap', e', -, -, hcc⟩ := unhide HR wr (unhide HW)
        simp only [Value.slice.injEq] at e'
        obtain ⟨rfl, -, rfl⟩ := e'
        obtain ⟨b, o, x0, x1, x2, x3, x4, rfl, g0, g1, g2, g3, g4, EX⟩ := recCallAt hcc htn
        have ex : ca L t = (x0, x1, x2, x3, x4) := unhide EX
        obtain ⟨a', c', e', -, -, hne⟩ := unhide HO
        simp only [Value.slice.injEq] at e'
        obtain ⟨rfl, -, rfl⟩ := e'
        obtain ⟨go, rfl, hgo, hgo2, hoM⟩ := hne (fun e => by have h9 := unhide HML; rw [e] at h9; simp at h9; omega)
        have htM : t < M.length := by have := unhide HML; omega
        obtain ⟨a9, ea9⟩ := unhide HMF t
        rw [ex] at ea9
        replace ea9 : ca M t = (x0, x1, x2, x3, a9) := ea9
        obtain ⟨m0, m1, m2, m3, m4⟩ := own_call hoM htM ea9
        have hat := (unhide HA).cell (bo_at (H := H) htn)
        have r4 := fun x : Gr wr => gr_cell g4 x
        have s2 := fun x : Gr wr => gr_cell m2 x
        have u1 := fun x : Gr wr => gr_cell hat x
        have HCT : Hid (CdH L H t ↔ x4 < 0 ∧ H t = false) := by
          show _ ↔ _
          unfold CdH
          rw [ex]
          exact ⟨fun h => h.2, fun h => ⟨htn, h⟩⟩
        have HFT : Hid (cFr (ca L t) = x2) := by show _ = _; rw [ex]
        clear EX ex hcc g0 g1 g2 g3 g4 hne m0 m1 m2 m3 m4 hat ea9 a9
        by_cases h4 : x4 < 0
        case neg =>
          have d4 : decide (x4 < 0) = false := decide_eq_false h4
          have HBS := hide ((unhide HB).skip (fun h => h4 ((unhide HCT).1 h).1))
          clear h4 HCT HB hoM
          go_wp2
          refine wp_region_grown (by kernel_rfl) (by kernel_rfl) ?_
          repeat (go_big_quiet_step (fail))
          refine wpQuiet_nil ?_
          intro w5 hw5
          obtain ⟨z', hz⟩ := hw5
          have hb1 : Below wr.heap.size wr w5 := hz ▸ z'.ok
          have HW1 := hide (Below.step (unhide HW) hb1)
          have HO1 := hide ((unhide HO).below hb1)
          have HA1 := hide ((unhide HA).step hb1)
          clear hz hb1 z' gsome r4 s2 u1
          go_wp2
          go_roundg (L.length - (t + 1))
          case measure => omega
          case rel => exact ⟨t + 1, _, by omega, rfl, by go_num, rfl, HBS, HO1, HA1, HW1⟩
        have d4 : decide (x4 < 0) = true := decide_eq_true h4
        cases hH : H t with
        | true =>
          have HBS := hide ((unhide HB).skip (fun h => by have := ((unhide HCT).1 h).2; rw [hH] at this; cases this))
          rw [hH] at u1
          clear h4 HCT HB hoM hH
          go_wp2
          refine wp_region_grown (by kernel_rfl) (by kernel_rfl) ?_
          repeat (go_big_quiet_step (fail))
          refine wpQuiet_nil ?_
          intro w5 hw5
          obtain ⟨z', hz⟩ := hw5
          have hb1 : Below wr.heap.size wr w5 := hz ▸ z'.ok
          have HW1 := hide (Below.step (unhide HW) hb1)
          have HO1 := hide ((unhide HO).below hb1)
          have HA1 := hide ((unhide HA).step hb1)
          clear hz hb1 z' gsome r4 s2 u1
          go_wp2
          go_roundg (L.length - (t + 1))
          case measure => omega
          case rel => exact ⟨t + 1, _, by omega, rfl, by go_num, rfl, HBS, HO1, HA1, HW1⟩
        | false =>
        rw [hH] at u1
        have HCD := hide ((unhide HCT).2 ⟨h4, hH⟩)
        clear h4 hH HCT
        rcases unhide HB with ⟨rfl, hnone⟩ | ⟨q, rfl, hq, hcq, hmin⟩
        · have HBS := hide (BstP.first hnone (unhide HCD))
          clear hnone HB hoM
          go_wp2
          refine wp_region_grown (by kernel_rfl) (by kernel_rfl) ?_
          repeat (go_big_quiet_step (fail))
          refine wpQuiet_nil ?_
          intro w5 hw5
          obtain ⟨z', hz⟩ := hw5
          have hb1 : Below wr.heap.size wr w5 := hz ▸ z'.ok
          have HW1 := hide (Below.step (unhide HW) hb1)
          have HO1 := hide ((unhide HO).below hb1)
          have HA1 := hide ((unhide HA).step hb1)
          clear hz hb1 z' gsome r4 s2 u1
          go_wp2
          go_roundg (L.length - (t + 1))
          case measure => omega
          case rel => exact ⟨t + 1, _, by omega, rfl, by go_num, rfl, HBS, HO1, HA1, HW1⟩
        · have hqi : (q : Int) < L.length := by omega
          have hqM : q < M.length := by have := unhide HML; omega
          obtain ⟨a8, ea8⟩ := unhide HMF q
          obtain ⟨⟨y0, y1, y2, y3, y4⟩, ey⟩ : ∃ y, y = ca L q := ⟨_, rfl⟩
          rw [← ey] at ea8
          replace ea8 : ca M q = (y0, y1, y2, y3, a8) := ea8
          obtain ⟨m0, m1, m2, m3, m4⟩ := own_call hoM hqM ea8
          have s3 := fun x : Gr wr => gr_cell m2 x
          have HFQ : Hid (cFr (ca L q) = y2) := by show _ = _; rw [← ey]
          have HMN := hide hmin
          have HCQ := hide hcq
          have dq : decide ((q : Int) < 0) = false := by simp
          clear m0 m1 m2 m3 m4 ea8 ey hmin hcq HB hoM
          by_cases hlt : x2 < y2
          · have d2 : decide (x2 < y2) = true := decide_eq_true hlt
            have HBS := hide (BstP.new (b := q) (unhide HMN) (unhide HCD) (by rw [unhide HFT, unhide HFQ]; exact hlt))
            clear hlt
            go_wp2
            refine wp_region_grown (by kernel_rfl) (by kernel_rfl) ?_
            repeat (go_big_quiet_step (fail))
            refine wpQuiet_nil ?_
            intro w5 hw5
            obtain ⟨z', hz⟩ := hw5
            have hb1 : Below wr.heap.size wr w5 := hz ▸ z'.ok
            have HW1 := hide (Below.step (unhide HW) hb1)
            have HO1 := hide ((unhide HO).below hb1)
            have HA1 := hide ((unhide HA).step hb1)
            clear hz hb1 z' gsome r4 s2 u1 s3
            go_wp2
            go_roundg (L.length - (t + 1))
            case measure => omega
            case rel => exact ⟨t + 1, _, by omega, rfl, by go_num, rfl, HBS, HO1, HA1, HW1⟩
          · have d2 : decide (x2 < y2) = false := decide_eq_false hlt
            have HBS := hide (BstP.old hq (unhide HCQ) (unhide HMN) (by rw [unhide HFT, unhide HFQ]; exact hlt))
            clear hlt
            go_wp2
            refine wp_region_grown (by kernel_rfl) (by kernel_rfl) ?_
            repeat (go_big_quiet_step (fail))
            refine wpQuiet_nil ?_
            intro w5 hw5
            obtain ⟨z', hz⟩ := hw5
            have hb1 : Below wr.heap.size wr w5 := hz ▸ z'.ok
            have HW1 := hide (Below.step (unhide HW) hb1)
            have HO1 := hide ((unhide HO).below hb1)
            have HA1 := hide ((unhide HA).step hb1)
            clear hz hb1 z' gsome r4 s2 u1 s3
            go_wp2
            go_roundg (L.length - (t + 1))
            case measure => omega
            case rel => exact ⟨t + 1, _, by omega, rfl, by go_num, rfl, HBS, HO1, HA1, HW1⟩
      · obtain rfl : t = L.length := by omega
        rcases unhide HB with ⟨rfl, hnone⟩ | ⟨q, rfl, hq, hcq, hmin⟩
        · have HFN := hide (unhide HNN (fun i hc => hnone i hc.1 ((unhide HC i).1 hc)))
          clear hnone
          go_wp2
          refine bodyPost_ret (v := .tuple #[.slice sa L.length sc, .bool true]) (by simp [results, Try.results32, go_sem]) rfl ?_
          show BaAns _ _ _ _ _
          rw [unhide HBV]
          refine ⟨_, _, _, rfl, ?_, unhide HW⟩
          show OwnR 5 eCall w.heap.size _ _ (ba (N : Int) L E L.length)
          rw [unhide HFN]
          exact (unhide HO).ownR
        · obtain ⟨k', hk1, hk2, eAt, eBa, hC'⟩ := unhide HPK q hcq (fun i hi => hmin i hi.1 hi)
          have hqi : (q : Int) < L.length := by omega
          have hqM : q < M.length := by have := unhide HML; omega
          obtain ⟨a', c', e', hz1, hz2, hne⟩ := unhide HO
          simp only [Value.slice.injEq] at e'
          obtain ⟨rfl, -, rfl⟩ := e'
          obtain ⟨go, rfl, hgo, hgo2, hoM⟩ := hne (fun e => by rw [e] at hqM; simp at hqM)
          obtain ⟨⟨y0, y1, y2, y3, y4⟩, ey⟩ : ∃ y, y = ca M q := ⟨_, rfl⟩
          have ey := ey.symm
          rw [ey] at eAt eBa
          have HBE := hide (berV_at (id := y0) (clB_iff.2 (unhide HOK)) hqM (by rw [ey]))
          rw [ey] at HBE
          have eA4 : y4 = -1 := eAt
          replace eBa : ba (N : Int) L E k' = M.set q (y0, y1, y2, y3, lbV (N : Int) M (y0, y1, y2, y3, y4)) := eBa
          have HEB := hide eBa
          have HC2 := hide hC'
          have HEY := hide ey
          have HA4 := hide eA4
          have HOM := hide hoM
          clear ey eAt eBa hC' hmin hcq hne hoM eA4 hz1 hz2 HB HO
          have ck := (unhide HA).cell (bo_at (H := H) hq)
          have fz := (unhide HA).frozen q
          have HA2 : Hid (OwnV (wr.setCell ⟨ga, q, none⟩ (.bool true)) ga (bo L.length (fun i => if i = q then true else H i))) := by
            show OwnV _ _ _
            rw [← bo_set true hq]
            exact (unhide HA).set q _ (by rw [bo_len]; exact hq)
          have HOM2 := hide ((unhide HOM).other (a := ⟨ga, q, none⟩) (by show go ≠ ga; omega) (.bool true))
          have HW2 := hide ((unhide HW).setCell (p := ⟨ga, q, none⟩) hga (.bool true))
          have HV2 : Hid (RCall (wr.setCell ⟨ga, q, none⟩ (.bool true)) (.slice (some ⟨go, 0, none⟩) L.length sc) M) := by
            show RCall _ _ _
            rw [← unhide HML]
            exact OwnV.recsIn (unhide HOM2) (by rw [unhide HML]; exact hcap.1) (by unfold maxLen; omega)
          obtain ⟨m0, -, -, -, -⟩ := own_call (unhide HOM2) hqM (unhide HEY)
          have dq : decide ((q : Int) < 0) = false := by simp
          obtain ⟨V5, eV5⟩ : ∃ V, V = wr.setCell ⟨ga, q, none⟩ (.bool true) := ⟨_, rfl⟩
          rw [← eV5] at HA2 HOM2 HW2 HV2 m0
          have Q5 := hide (specBerth_any _ (N : Int) M y0 V5 (unhide HV2))
          rw [unhide HBE] at Q5
          go_upto_region 14 with (fail)
          rw [← eV5]
          clear eV5 ck fz HA HOM HW HBE HV2
          go_wp2_with fail
          refine (unhide Q5).mono ?_
          rintro e w6 ⟨rfl, hbb⟩
          have HA3 := hide ((unhide HA2).step hbb)
          have HOM3 := hide ((unhide HOM2).step hbb)
          have HW3 := hide (Below.step (unhide HW2) hbb)
          clear hbb Q5 m0 HA2 HOM2 HW2
          generalize lbV (N : Int) M (y0, y1, y2, y3, y4) = z at *
          by_cases hz : z = -1
          · have dz : decide (z ≠ -1) = false := by simp [hz]
            have HM2 : Hid (ba (N : Int) L E k' = M) := by
              show _ = _
              rw [unhide HEB, hz, ← unhide HA4, ← unhide HEY]
              exact set_self hqM
            clear HEB
            dsimp only
            rw [dz]
            go_wp2
            go_roundg (L.length - k')
            case measure => omega
            case rel => exact ⟨k', _, hk2, rfl, trivial, HC2, by rw [unhide HM2]; exact ⟨_, sc, by rw [unhide HML], by rw [unhide HML]; exact hcap.1, by unfold maxLen; omega, fun _ => ⟨go, rfl, hgo, hgo2, unhide HOM3⟩⟩, HA3, HW3⟩
          · have dz : decide (z ≠ -1) = true := by simp [hz]
            obtain ⟨-, -, -, -, m4⟩ := own_call (unhide HOM3) hqM (unhide HEY)
            have fz := (unhide HOM3).frozen (q * 5 + 4)
            have HOM4 := hide (own_setAt (unhide HOM3) hqM (unhide HEY) z)
            have HA4' := hide ((unhide HA3).other (a := ⟨go, q * 5 + 4, none⟩) (by show ga ≠ go; omega) (.int .i64 z))
            have HW4 := hide ((unhide HW3).setCell (p := ⟨go, q * 5 + 4, none⟩) hgo (.int .i64 z))
            clear HOM3 HA3 HW3
            dsimp only
            rw [dz]
            go_wp2
            go_roundg (L.length - k')
            case measure => omega
            case rel => exact ⟨k', _, hk2, rfl, trivial, HC2, by rw [unhide HEB]; exact ⟨_, sc, by rw [List.length_set, unhide HML], by rw [List.length_set, unhide HML]; exact hcap.1, by unfold maxLen; omega, fun _ => ⟨go, rfl, hgo, hgo2, unhide HOM4⟩⟩, HA4', HW4⟩

end Go.Proofs.Ytogoknldhimgfaa

namespace Go.Proofs.Ytogoknldhimgfaa
open Go.RowKit

theorem Try.eqgCall : Try.prog.eqGuardType Try.prog.depth 31 = false := by kernel_rfl
theorem Try.heldCall : Try.prog.stoodInHeld 31 = false := by kernel_rfl
theorem neq_call (x0 x1 x2 x3 x4 : Int) (w : World) : (binOp .neq 31 (.agg #[.int .i64 x0, .int .i64 x1, .int .i64 x2, .int .i64 x3, .int .i64 x4]) (.agg #[.int .i64 x0, .int .i64 x1, .int .i64 x2, .int .i64 x3, .int .i64 x4])).run Try.prog w = .ok (.bool false) w := by
  rw [run_neq_struct, run_equalIn_agg _ _ _ _ _ (by rw [Program.fieldsOf, Try.underlying31]) Try.heldCall]
  simp [go_sem, Program.fieldsOf, Try.underlying31, Try.underlying3]
theorem call_len {W : World} {ao : Option Addr} {m c : Nat} {L : List CallT} (h : RCall W (.slice ao m c) L) : m = L.length ∧ m ≤ c ∧ c ≤ 9223372036854775807 := by
  obtain ⟨ao', c', e, h2, h3, h4⟩ := h
  simp only [Value.slice.injEq] at e
  obtain ⟨rfl, rfl, rfl⟩ := e
  unfold maxLen at h3
  exact ⟨rfl, h2, by omega⟩
theorem call_some {W : World} {ao : Option Addr} {m c k : Nat} {L : List CallT} (h : RCall W (.slice ao m c) L) (hk : k < L.length) : ∃ b o, ao = some ⟨b, o, none⟩ := by
  obtain ⟨ao', c', e, h2, h3, h4⟩ := h
  simp only [Value.slice.injEq] at e
  obtain ⟨rfl, rfl, rfl⟩ := e
  obtain ⟨b, o, e, _⟩ := h4 k hk
  exact ⟨b, o, e⟩
theorem call_cells {W : World} {b o m c k : Nat} {L : List CallT} (h : RCall W (.slice (some ⟨b, o, none⟩) m c) L) (hk : k < L.length) {x0 x1 x2 x3 x4 : Int} (e : ca L k = (x0, x1, x2, x3, x4)) : W.cell? ⟨b, o + k * 5, none⟩ = some (.int .i64 x0) ∧ W.cell? ⟨b, o + k * 5 + 1, none⟩ = some (.int .i64 x1) ∧ W.cell? ⟨b, o + k * 5 + 2, none⟩ = some (.int .i64 x2) ∧ W.cell? ⟨b, o + k * 5 + 3, none⟩ = some (.int .i64 x3) ∧ W.cell? ⟨b, o + k * 5 + 4, none⟩ = some (.int .i64 x4) := by
  obtain ⟨ao', c', e', h2, h3, h4⟩ := h
  simp only [Value.slice.injEq] at e'
  obtain ⟨rfl, rfl, rfl⟩ := e'
  obtain ⟨b', o', e2, hc⟩ := h4 k hk
  simp only [Option.some.injEq, Addr.mk.injEq, and_true] at e2
  obtain ⟨rfl, rfl⟩ := e2
  have e : L.getD k default = (x0, x1, x2, x3, x4) := e
  rw [e] at hc
  exact ⟨hc 0 (by omega), hc 1 (by omega), hc 2 (by omega), hc 3 (by omega), hc 4 (by omega)⟩

set_option maxRecDepth 100000 in
set_option maxHeartbeats 16000000 in
theorem fnBerths_any (v : Value) (nb : Nat) (w : World) (h : BytesIn w.heap.size w v nb) :
    Calls Try.prog 3 #[v] w fun e w' => e = .returned (.bool true) ∧ Below w.heap.size w w' := by
  have HB := hide h
  obtain ⟨vao, vcap, rfl, hvl, hvm, _⟩ := h
  unfold maxLen at hvm
  have Q0 := hide fun W => big_any vao nb vcap W
  by_cases hbig : 1048576 < nb
  · have d0 : decide ((1048576 : Int) < (nb : Int)) = true := by simp; omega
    rw [d0] at Q0
    go_enter Try.func3, Try.ntmps3
    go_wp2_with fail
    refine (unhide Q0 _).mono ?_
    rintro e w' ⟨rfl, rfl⟩
    go_wp2
    go_ret
    exact ⟨rfl, Below.refl _ _⟩
  have d0 : decide ((1048576 : Int) < (nb : Int)) = false := by simp; omega
  rw [d0] at Q0
  have Q1 := hide fun W (hW : BytesIn W.heap.size W (.slice vao nb vcap) nb) => drawQuay_any (.slice vao nb vcap) nb W hW (by omega)
  go_enter Try.func3, Try.ntmps3
  go_wp2_with fail
  refine (unhide Q0 _).mono ?_
  rintro e w' ⟨rfl, rfl⟩
  go_wp2_with fail
  refine (unhide Q1 _ (unhide HB)).mono ?_
  rintro e WD ⟨long, ao, m, cc, L, rfl, hL, hP, hN, hbw⟩
  have HBW := hide hbw
  have h24 := hP.2.1
  obtain ⟨rfl, hcc, hcc2⟩ := call_len hL
  obtain ⟨E, hT⟩ := turn_ex L
  have hclL : clB long L = true := clB_iff.2 ⟨hP, hN⟩
  obtain ⟨hPM, hNM⟩ := ba_ok hT hP hN (k := L.length) (Nat.le_refl _)
  have HCA := hide (caB_iff.2 hPM)
  have HCL := hide (clB_iff.2 ⟨hPM, hNM⟩)
  have HKP := hide fun i hi => ba_keeps (long := long) (i := i) hT hi
  have HLK := hide fun i => ba_like (long := long) hT (Nat.le_refl _) i
  have HBR := hide fun i hi => ba_ber (i := i) hT hP hN hi
  have HML := hide (ba_len long L E L.length)
  have HBD := hide fun i hi => bdM_ge (i := i) hP hi L.length hi (Nat.le_refl _)
  have HBV := hide (bdV_yes hP)
  have QA := hide (implBerthAll_any (.slice ao L.length cc) long L WD hL)
  rw [baV_yes hclL hT] at QA
  have QN := hide fun W hW => implBound17_any (.slice ao L.length cc) long L W hW
  rw [unhide HBV] at QN
  have HL := hide hL
  generalize ba long L E L.length = M at *
  generalize bdM L L.length = most at *
  unfold BaAns at QA
  clear hbw hL hP hN hT hclL hPM hNM Q0 Q1 d0 hbig hvl hvm HB HBV
  dsimp only at QA QN
  go_wp2_with fail
  refine (unhide QA).mono ?_
  rintro e W1 ⟨oa, on, oc, rfl, hr, hb⟩
  have HZ := hide hb
  have HOU := hide hr.intsIn
  obtain ⟨eon, hoc, hoc2⟩ := call_len hr.intsIn
  rw [unhide HML] at eon
  subst eon
  clear hr hb QA
  have QC1 := hide (implCallsOk_any _ long M W1 (unhide HOU))
  rw [unhide HCA] at QC1
  have dn : ((L.length : Int) != (L.length : Int)) = false := by simp
  go_wp2_with fail
  refine (unhide QC1).mono ?_
  rintro e W2 ⟨rfl, hb⟩
  replace HZ := hide (Below.step (unhide HZ) hb)
  replace HOU := hide ((unhide HOU).below hb)
  clear hb QC1
  have QC2 := hide (implClear17_any _ long M W2 (unhide HOU))
  rw [unhide HCL] at QC2
  go_wp2_with fail
  refine (unhide QC2).mono ?_
  rintro e W3 ⟨rfl, hb⟩
  replace HZ := hide (Below.step (unhide HZ) hb)
  replace HOU := hide ((unhide HOU).below hb)
  clear hb QC2
  generalize hw8 : W3 = w8 at *
  clear hw8
  go_wp2
  go_loopg [7] L.length (fun g iv wr => ∃ i : Nat, i ≤ L.length ∧ g = L.length - i ∧ iv = .int .i64 (i : Int) ∧ Hid (RCall wr (.slice oa L.length oc) M) ∧ Hid (Below WD.heap.size WD wr))
  case atStart => exact ⟨0, Nat.zero_le _, rfl, rfl, HOU, HZ⟩
  case round =>
    clear HOU HZ
    obtain ⟨i, hi, rfl, rfl, HOU, HZ⟩ := hrel
    by_cases hin : i < L.length
    · have hii : (i : Int) < L.length := by omega
      have hiM : i < M.length := by rw [unhide HML]; exact hin
      obtain ⟨b0, o0, rfl⟩ := call_some (unhide HL) hin
      obtain ⟨b1, o1, rfl⟩ := call_some (unhide HOU) hiM
      obtain ⟨⟨x0, x1, x2, x3, x4⟩, ex⟩ : ∃ x, x = ca L i := ⟨_, rfl⟩
      obtain ⟨a, ea⟩ := unhide HLK i
      rw [← ex] at ea
      replace ea : ca M i = (x0, x1, x2, x3, a) := ea
      have HEM := hide ea
      have HK4 : Hid (0 ≤ x4 → a = x4) := fun h => by
        have h9 := unhide HKP i (by rw [← ex]; show x4 ≠ -1; omega)
        rw [ea, ← ex] at h9
        simp only [Prod.mk.injEq, true_and] at h9
        exact h9
      obtain ⟨z, ez, hza⟩ := unhide HBR i hin
      rw [ea] at ez hza
      have HZA : Hid (0 ≤ a → z ≤ a) := hza
      have QB := hide fun W hW => implBerth_any (.slice (some ⟨b1, o1, none⟩) L.length oc) long M x0 W hW
      rw [show berV long M x0 = (z, decide (0 ≤ a)) from ez] at QB
      obtain ⟨f0, f1, f2, f3, f4⟩ := call_cells ((unhide HL).below (unhide HZ)) hin ex.symm
      obtain ⟨g0, g1, g2, g3, g4⟩ := call_cells (unhide HOU) hiM ea
      have gsome := gr_some wr
      have r0 := fun x : Gr wr => gr_cell f0 x
      have r1 := fun x : Gr wr => gr_cell f1 x
      have r2 := fun x : Gr wr => gr_cell f2 x
      have r3 := fun x : Gr wr => gr_cell f3 x
      have r4 := fun x : Gr wr => gr_cell f4 x
      have s0 := fun x : Gr wr => gr_cell g0 x
      have s1 := fun x : Gr wr => gr_cell g1 x
      have s2 := fun x : Gr wr => gr_cell g2 x
      have s3 := fun x : Gr wr => gr_cell g3 x
      have s4 := fun x : Gr wr => gr_cell g4 x
      have hGd := fun x y w => run_eqGuard_agg (P := Try.prog) w .neq 31 x y #[.int .i64 x0, .int .i64 x1, .int .i64 x2, .int .i64 x3, .int .i64 x4] #[.int .i64 x0, .int .i64 x1, .int .i64 x2, .int .i64 x3, .int .i64 x4] Try.eqgCall
      have hNe := neq_call x0 x1 x2 x3 x4
      clear f0 f1 f2 f3 f4 g0 g1 g2 g3 g4 ex ea ez hza
      by_cases h4 : 0 ≤ x4
      · have e4 := unhide HK4 h4
        subst e4
        have d4 : decide (0 ≤ a) = true := decide_eq_true h4
        clear HK4 h4
        go_wp2
        refine wp_region_grown (by kernel_rfl) (by kernel_rfl) ?_
        repeat (go_big_quiet_step (fail))
        refine wpQuiet_nil ?_
        intro w5 hw5
        obtain ⟨z', hz⟩ := hw5
        have hb1 : Below wr.heap.size wr w5 := hz ▸ z'.ok
        replace HZ := hide (Below.step (unhide HZ) hb1)
        replace HOU := hide ((unhide HOU).below hb1)
        clear hz hb1 z' gsome r0 r1 r2 r3 r4 s0 s1 s2 s3 s4 hGd hNe d4
        have o0 := (unhide HOU)
        obtain ⟨k0, k1, k2, k3, k4⟩ := call_cells (unhide HOU) hiM (unhide HEM)
        clear o0 k1 k2 k3
        go_wp2_with fail
        refine (unhide QB _ (unhide HOU)).mono ?_
        rintro e W6 ⟨rfl, hb⟩
        replace HZ := hide (Below.step (unhide HZ) hb)
        replace HOU := hide ((unhide HOU).below hb)
        clear hb k0 k4 QB
        obtain ⟨-, -, -, -, k4⟩ := call_cells (unhide HOU) hiM (unhide HEM)
        dsimp only
        by_cases ha : 0 ≤ a
        · have hza := unhide HZA ha
          have e9 : decide (0 ≤ a) = true := decide_eq_true ha
          have d9 : decide (a < z) = false := decide_eq_false (by omega)
          rw [e9]
          go_wp2
          go_roundg (L.length - (i + 1))
          case measure => omega
          case rel => exact ⟨i + 1, by omega, rfl, by go_num, HOU, HZ⟩
        · have e9 : decide (0 ≤ a) = false := decide_eq_false ha
          rw [e9]
          go_wp2
          go_roundg (L.length - (i + 1))
          case measure => omega
          case rel => exact ⟨i + 1, by omega, rfl, by go_num, HOU, HZ⟩
      · have d4 : decide (0 ≤ x4) = false := decide_eq_false h4
        clear HK4 h4
        go_wp2
        refine wp_region_grown (by kernel_rfl) (by kernel_rfl) ?_
        repeat (go_big_quiet_step (fail))
        refine wpQuiet_nil ?_
        intro w5 hw5
        obtain ⟨z', hz⟩ := hw5
        have hb1 : Below wr.heap.size wr w5 := hz ▸ z'.ok
        replace HZ := hide (Below.step (unhide HZ) hb1)
        replace HOU := hide ((unhide HOU).below hb1)
        clear hz hb1 z' gsome r0 r1 r2 r3 r4 s0 s1 s2 s3 s4 hGd hNe d4
        have o0 := (unhide HOU)
        obtain ⟨k0, k1, k2, k3, k4⟩ := call_cells (unhide HOU) hiM (unhide HEM)
        clear o0 k1 k2 k3
        go_wp2_with fail
        refine (unhide QB _ (unhide HOU)).mono ?_
        rintro e W6 ⟨rfl, hb⟩
        replace HZ := hide (Below.step (unhide HZ) hb)
        replace HOU := hide ((unhide HOU).below hb)
        clear hb k0 k4 QB
        obtain ⟨-, -, -, -, k4⟩ := call_cells (unhide HOU) hiM (unhide HEM)
        dsimp only
        by_cases ha : 0 ≤ a
        · have hza := unhide HZA ha
          have e9 : decide (0 ≤ a) = true := decide_eq_true ha
          have d9 : decide (a < z) = false := decide_eq_false (by omega)
          rw [e9]
          go_wp2
          go_roundg (L.length - (i + 1))
          case measure => omega
          case rel => exact ⟨i + 1, by omega, rfl, by go_num, HOU, HZ⟩
        · have e9 : decide (0 ≤ a) = false := decide_eq_false ha
          rw [e9]
          go_wp2
          go_roundg (L.length - (i + 1))
          case measure => omega
          case rel => exact ⟨i + 1, by omega, rfl, by go_num, HOU, HZ⟩
    · obtain rfl : i = L.length := by omega
      go_wp2_with fail
      refine (unhide QN _ ((unhide HL).below (unhide HZ))).mono ?_
      rintro e W4 ⟨rfl, hb⟩
      replace HZ := hide (Below.step (unhide HZ) hb)
      clear hb QN HOU
      generalize hw7 : W4 = w7 at *
      clear hw7
      go_wp2
      go_loopg [12] L.length (fun g iv wr => ∃ q : Nat, q ≤ L.length ∧ g = L.length - q ∧ iv = .int .i64 (q : Int) ∧ Hid (Below WD.heap.size WD wr))
      case atStart => exact ⟨0, Nat.zero_le _, rfl, rfl, HZ⟩
      case round =>
        clear HZ
        obtain ⟨q, hq, rfl, rfl, HZ⟩ := hrel
        by_cases hqn : q < L.length
        · have hqi : (q : Int) < L.length := by omega
          obtain ⟨b0, o0, rfl⟩ := call_some (unhide HL) hqn
          obtain ⟨⟨x0, x1, x2, x3, x4⟩, ex⟩ : ∃ x, x = ca L q := ⟨_, rfl⟩
          obtain ⟨-, f1, -, -, -⟩ := call_cells ((unhide HL).below (unhide HZ)) hqn ex.symm
          have hbd := unhide HBD q hqn
          rw [← ex] at hbd
          have hbd : x1 ≤ most := hbd
          have db : decide (most < x1) = false := decide_eq_false (by omega)
          clear ex hbd
          go_wp2
          go_roundg (L.length - (q + 1))
          case measure => omega
          case rel => exact ⟨q + 1, by omega, rfl, by go_num, HZ⟩
        · obtain rfl : q = L.length := by omega
          have hA := Below.alloc1 wr (.cells #[.int .i64 1, .int .i64 4, .int .i64 0, .int .i64 5, .int .i64 0, .int .i64 2, .int .i64 5, .int .i64 0, .int .i64 5, .int .i64 (-1)] 31)
          have HO : OwnV (wr.alloc (.cells #[.int .i64 1, .int .i64 4, .int .i64 0, .int .i64 5, .int .i64 0, .int .i64 2, .int .i64 5, .int .i64 0, .int .i64 5, .int .i64 (-1)] 31)) wr.heap.size (recCells 5 eCall [(1, 4, 0, 5, 0), (2, 5, 0, 5, -1)]) := ownV_alloc wr _ _
          have Q9 := hide (implBerth_any _ 9 [(1, 4, 0, 5, 0), (2, 5, 0, 5, -1)] 2 _ (OwnV.recsIn (cap := 2) HO (Nat.le_refl _) (by unfold maxLen; omega)))
          rw [ber_two] at Q9
          replace HZ := hide (Below.step (unhide HZ) hA)
          clear hA HO
          go_wp2_with fail
          refine (unhide Q9).mono ?_
          rintro e W8 ⟨rfl, hb⟩
          replace HZ := hide (Below.step (unhide HZ) hb)
          clear hb Q9
          go_wp2
          go_ret
          exact ⟨ret_bool (by simp), Below.step (unhide HBW) (unhide HZ)⟩

end Go.Proofs.Ytogoknldhimgfaa
