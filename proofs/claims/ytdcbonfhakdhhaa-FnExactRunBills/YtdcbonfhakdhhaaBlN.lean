/- Bills: contracts of the program's billOpOk, issued. Written by wip/mkbln.py. -/
import Derived.Test.YtdcbonfhakdhhaaBlL
import Derived.Test.YtdcbonfhakdhhaaBlI
import Derived.Deep.RegionWith
namespace Go.Proofs.Ytdcbonfhakdhhaa
open Go.RowKit

set_option maxRecDepth 10000 in
set_option maxHeartbeats 3200000 in
theorem billOpOk_any (kd id : Int) (who tt : ByteArray) (num many : Int) (w : World) :
    Calls Try.prog 63 #[vBillOp kd id who tt num many] w fun e w' => e = .returned (.bool (opB (kd, id, who, tt, num, many))) ∧ Below w.heap.size w w' := by
  have HW := hide (Below.alloc1 w (.cells #[.int .i64 kd, .int .i64 id, .string who, .string tt, .int .i64 num, .int .i64 many] 34))
  have Q1 := hide fun V => within_any id 1 1000000 V
  have Q2 := hide fun V => isName_any who V
  have Q3 := hide fun V => isNameOrEmpty_any tt V
  have Q4 := hide fun V => isName_any tt V
  have Q5 := hide fun V => isMany_any many V
  have EO : Hid (opB (kd, id, who, tt, num, many) = (inB id 1 1000000 && nameB who && (if kd = 1 then orB tt && inB many 1 5 else if kd = 2 then orB tt else if kd = 3 then nameB tt else if kd = 4 then true else if kd = 5 then inB many 1 5 else false))) := rfl
  generalize opB (kd, id, who, tt, num, many) = Z at *
  unfold vBillOp
  go_enter Try.func63, Try.ntmps63
  go_wp2_with fail
  refine (unhide Q1 _).mono ?_
  rintro e w1 ⟨rfl, h9⟩
  subst h9
  cases h1 : inB id 1 1000000 with
  | false =>
    have ez : Z = false := by rw [unhide EO, h1]; rfl
    go_wp2
    go_ret
    exact ⟨by rw [ez]; rfl, unhide HW⟩
  | true =>
    go_wp2_with fail
    refine (unhide Q2 _).mono ?_
    rintro e w2 ⟨rfl, h9⟩
    subst h9
    cases h2 : nameB who with
    | false =>
      have ez : Z = false := by rw [unhide EO, h1, h2]; rfl
      go_wp2
      go_ret
      exact ⟨by rw [ez]; rfl, unhide HW⟩
    | true =>
      rw [h1, h2] at EO
      clear Q1 Q2 h1 h2
      by_cases k1 : kd = 1
      · subst k1
        go_wp2_with fail
        refine (unhide Q3 _).mono ?_
        rintro e w5 ⟨rfl, h9⟩
        subst h9
        cases h3 : orB tt with
        | false =>
          have ez : Z = false := by rw [unhide EO]; simp [h3]
          go_wp2
          go_ret
          exact ⟨by rw [ez]; rfl, unhide HW⟩
        | true =>
          go_wp2_with fail
          refine (unhide Q5 _).mono ?_
          rintro e w7 ⟨rfl, h9⟩
          subst h9
          have ez : Z = inB many 1 5 := by rw [unhide EO]; simp [h3]
          go_wp2
          go_ret
          exact ⟨by rw [ez]; rfl, unhide HW⟩
      have e1 : (kd == 1) = false := by simpa using k1
      by_cases k2 : kd = 2
      · subst k2
        go_wp2_with fail
        refine (unhide Q3 _).mono ?_
        rintro e w5 ⟨rfl, h9⟩
        subst h9
        have ez : Z = orB tt := by rw [unhide EO]; simp []
        go_wp2
        go_ret
        exact ⟨by rw [ez]; rfl, unhide HW⟩
      have e2 : (kd == 2) = false := by simpa using k2
      by_cases k3 : kd = 3
      · subst k3
        go_wp2_with fail
        refine (unhide Q4 _).mono ?_
        rintro e w6 ⟨rfl, h9⟩
        subst h9
        have ez : Z = nameB tt := by rw [unhide EO]; simp []
        go_wp2
        go_ret
        exact ⟨by rw [ez]; rfl, unhide HW⟩
      have e3 : (kd == 3) = false := by simpa using k3
      by_cases k4 : kd = 4
      · subst k4
        have ez : Z = true := by rw [unhide EO]; simp []
        go_wp2
        go_ret
        exact ⟨by rw [ez]; rfl, unhide HW⟩
      have e4 : (kd == 4) = false := by simpa using k4
      by_cases k5 : kd = 5
      · subst k5
        go_wp2_with fail
        refine (unhide Q5 _).mono ?_
        rintro e w7 ⟨rfl, h9⟩
        subst h9
        have ez : Z = inB many 1 5 := by rw [unhide EO]; simp []
        go_wp2
        go_ret
        exact ⟨by rw [ez]; rfl, unhide HW⟩
      have e5 : (kd == 5) = false := by simpa using k5
      have ez : Z = false := by rw [unhide EO]; simp [k1, k2, k3, k4, k5]
      go_wp2
      go_ret
      exact ⟨by rw [ez]; rfl, unhide HW⟩

theorem PBk.keptL {A T : Nat → Prop} {w w' : World} {g m cap f mf fcap : Nat} {E : List EBl} {F : List Int} (h : PBk A w g m cap f mf fcap E F) (hk : Kept T w w') (hT : ∀ k, k < w.heap.size → A k → ¬ T k) : PBk A w' g m cap f mf fcap E F :=
  (((h.mono (A' := fun k => A k ∧ k < w.heap.size) (fun _ h1 h2 => ⟨h2, h1⟩)).kept hk (fun k h => hT k h.2 h.1)).mono (fun _ _ h => h.1))
theorem PBk.far {A : Nat → Prop} {w : World} {g m cap f mf fcap : Nat} {E : List EBl} {F : List Int} {b i : Nat} {u : Value} (h : PBk A w g m cap f mf fcap E F) (hb : ¬ A b) : PBk A (w.setCell ⟨b, i, none⟩ u) g m cap f mf fcap E F :=
  h.kept (T := fun k => k = b) ((Kept.refl (fun k => k = b) w).setCell (p := ⟨b, i, none⟩) rfl u) (fun _ h e => hb (e ▸ h))
/-- The answer of what does an op on a book of the program's own. -/
def PAns (A : Nat → Prop) (w : World) (b : BkT × Int) (e : Ending) (w' : World) : Prop :=
  ∃ g m cap f mf fcap E, e = .returned (.tuple #[vBook (.slice (some ⟨g, 0, none⟩) m cap) (.slice (some ⟨f, 0, none⟩) mf fcap), .int .i64 b.2]) ∧ bills E = b.1.1 ∧ PBk A w' g m cap f mf fcap E b.1.2 ∧ Kept A w w'
/-- Blocks of A but for three boxes that were made first. -/
def no3 (A : Nat → Prop) (n : Nat) (k : Nat) : Prop := A k ∧ (k < n ∨ n + 2 < k)
/-- What is held while an op is done: three boxes, and the book. -/
structure Bx (A : Nat → Prop) (w cur : World) (bv fv : Value) (ov : List Value) (g m cap f mf fcap : Nat) (E : List EBl) (F : List Int) : Prop where
  kept : Kept A w cur
  own : OwnV cur w.heap.size [bv, fv]
  op : OwnV cur (w.heap.size + 1) ov
  res : OwnV cur (w.heap.size + 2) [.slice none 0 0, .slice none 0 0]
  pbk : PBk (no3 A w.heap.size) cur g m cap f mf fcap E F
section
variable {A : Nat → Prop} {w cur cur' : World} {bv fv : Value} {ov : List Value} {g m cap f mf fcap : Nat} {E : List EBl} {F : List Int}
theorem Bx.step (h : Bx A w cur bv fv ov g m cap f mf fcap E F) (hb : Below cur.heap.size cur cur') : Bx A w cur' bv fv ov g m cap f mf fcap E F :=
  ⟨h.kept.trans (kept_of_below hb), h.own.step hb, h.op.step hb, h.res.step hb, h.pbk.step hb⟩
theorem Bx.lt (h : Bx A w cur bv fv ov g m cap f mf fcap E F) : w.heap.size + 2 < cur.heap.size := h.res.lt
theorem bx_new {w : World} (hp : PBk A w g m cap f mf fcap E F) (a b c : Array Value) (t1 t2 t3 : TypeId) (ha : a.toList = [bv, fv]) (hc : c.toList = [.slice none 0 0, .slice none 0 0]) :
    Bx A w (((w.alloc (.cells a t1)).alloc (.cells b t2)).alloc (.cells c t3)) bv fv b.toList g m cap f mf fcap E F := by
  have hb := Below.step (Below.step (Below.alloc1 w (.cells a t1)) (Below.alloc1 _ (.cells b t2))) (Below.alloc1 _ (.cells c t3))
  have h2 := ownV_alloc (w.alloc (.cells a t1)) b t2
  have h3 := ownV_alloc ((w.alloc (.cells a t1)).alloc (.cells b t2)) c t3
  simp only [World.size_alloc] at h2 h3
  refine ⟨kept_of_below hb, ?_, h2.alloc _, ?_, (hp.mono (fun k hk h => ⟨h, Or.inl hk⟩)).step hb⟩
  · rw [← ha]; exact ((ownV_alloc w a t1).alloc _).alloc _
  · rw [← hc]; exact h3
theorem Bx.res2 (h : Bx A w cur bv fv ov g m cap f mf fcap E F) (v0 v1 : Value) : Kept (fun k => A k ∨ w.heap.size ≤ k) w ((cur.setCell ⟨w.heap.size + 2, 0, none⟩ v0).setCell ⟨w.heap.size + 2, 1, none⟩ v1) ∧ OwnV ((cur.setCell ⟨w.heap.size + 2, 0, none⟩ v0).setCell ⟨w.heap.size + 2, 1, none⟩ v1) (w.heap.size + 2) [v0, v1] ∧ PBk A ((cur.setCell ⟨w.heap.size + 2, 0, none⟩ v0).setCell ⟨w.heap.size + 2, 1, none⟩ v1) g m cap f mf fcap E F :=
  ⟨((h.kept.mono (fun k _ h => Or.inl h)).setCell (p := ⟨w.heap.size + 2, 0, none⟩) (Or.inr (by show w.heap.size ≤ w.heap.size + 2; omega)) v0).setCell (p := ⟨w.heap.size + 2, 1, none⟩) (Or.inr (by show w.heap.size ≤ w.heap.size + 2; omega)) v1,
   (h.res.set 0 v0 (by simp)).set 1 v1 (by simp), ((h.pbk.far (by unfold no3; omega)).far (by unfold no3; omega)).mono (fun _ _ h => h.1)⟩
end
theorem keptOr {A : Nat → Prop} {w w' : World} (h : Kept (fun k => A k ∨ w.heap.size ≤ k) w w') : Kept A w w' := h.mono fun k hk h => h.elim (fun h => h) (fun h => by omega)
theorem bill_one (A : Nat → Prop) (w : World) (g : Nat) (E : List EBl) (h : OwnH A w g E) {k : Nat} (x : EBl) (hx : OwnV w x.2.1 (strs x.1.2.2.2.2) ∧ A x.2.1 ∧ x.2.1 ≠ g ∧ x.1.2.2.2.2.length ≤ x.2.2 ∧ x.2.2 ≤ maxLen) (hn : ∀ y ∈ E, y.2.1 ≠ x.2.1) : OwnH A w g (insL E k x) := by
  have hm : ∀ y ∈ insL E k x, y = x ∨ y ∈ E := fun y hy => by
    simp only [insL, List.mem_append, List.mem_cons] at hy
    rcases hy with hy | hy | hy
    · exact Or.inr (List.mem_of_mem_take hy)
    · exact Or.inl hy
    · exact Or.inr (List.mem_of_mem_drop hy)
  refine ⟨fun y hy => ?_, ?_⟩
  · rcases hm y hy with rfl | hy
    · exact hx
    · exact h.own y hy
  · have e : (insL E k x).map (·.2.1) = (E.map (·.2.1)).take k ++ x.2.1 :: (E.map (·.2.1)).drop k := by simp [insL, List.map_take, List.map_drop]
    have hp : ((E.map (·.2.1)).take k ++ x.2.1 :: (E.map (·.2.1)).drop k).Perm (x.2.1 :: E.map (·.2.1)) := by
      refine List.perm_middle.trans ?_
      rw [List.take_append_drop]
    rw [e, hp.nodup_iff, List.nodup_cons]
    refine ⟨fun hmem => ?_, h.apart⟩
    obtain ⟨y, hy, he⟩ := List.mem_map.1 hmem
    exact hn y hy he
theorem bills_ins (E : List EBl) (k : Nat) (x : EBl) : bills (insL E k x) = insL (bills E) k x.1 := by simp [insL, bills, List.map_take, List.map_drop]
theorem Pap.drew {B : Nat} {w : World} {pg : Nat} {od : ByteArray} {H : List ByteArray} (h : Pap B w pg od H) : Pap B w.drew pg od H := h.step (Below.refl _ _).drew
section
variable {A : Nat → Prop} {w wa : World} {bv fv : Value} {ov : List Value} {g m cap f mf fcap : Nat} {E : List EBl} {F : List Int} {Bq og n gN : Nat} {H : List ByteArray} {Ps : List (Option Nat)} {od : ByteArray} {t : TypeId} {zs : List Value}
theorem pap_last (hB : Bx A w wa bv fv ov g m cap f mf fcap E F) (hO : Orig Bq wa og H Ps) (hn : H.length = n) :
    ∃ pg B : Nat, Value.pointer (some ⟨wa.heap.size, 0, none⟩) = .pointer (some ⟨pg, 0, none⟩) ∧ Hid (Bx A w (wa.alloc (.cells #[.string od, .slice (some ⟨og, 0, none⟩) n n] t)) bv fv ov g m cap f mf fcap E F) ∧ Hid (Pap B (wa.alloc (.cells #[.string od, .slice (some ⟨og, 0, none⟩) n n] t)) pg od H) := by
  have hb := Below.alloc1 wa (.cells #[.string od, .slice (some ⟨og, 0, none⟩) n n] t)
  have hlo := hO.row.lt
  have ho := hO.step hb
  refine ⟨wa.heap.size, 0, rfl, hB.step hb, og, Ps, by rw [hn]; exact ownV_alloc wa #[.string od, .slice (some ⟨og, 0, none⟩) n n] t, Nat.zero_le _, by omega, ⟨ho.len, Nat.zero_le _, ho.row, fun i hi => (ho.who i hi).imp (fun h => h) fun ⟨x, e, q, _, r⟩ => ⟨x, e, q, Nat.zero_le _, r⟩⟩, fun i hi e => ?_⟩
  rcases hO.who i hi with ⟨e1, _⟩ | ⟨x, e1, q, _⟩
  · rw [e1] at e; cases e
  · rw [e1] at e
    have := q.lt
    simp only [Option.some.injEq] at e
    omega
theorem pap_last' (hB : Bx A w wa bv fv ov g m cap f mf fcap E F) (hO : Orig Bq wa og H Ps) (hn : H.length = n) :
    ∃ pg B : Nat, Value.pointer (some ⟨wa.heap.size, 0, none⟩) = .pointer (some ⟨pg, 0, none⟩) ∧ Hid (Bx A w (wa.alloc (.cells #[.string od, .slice (some ⟨og, 0, none⟩) n n] t)).drew bv fv ov g m cap f mf fcap E F) ∧ Hid (Pap B (wa.alloc (.cells #[.string od, .slice (some ⟨og, 0, none⟩) n n] t)).drew pg od H) := by
  obtain ⟨pg, B, e, h1, h2⟩ := pap_last (od := od) (t := t) hB hO hn
  exact ⟨pg, B, e, (unhide h1).step (Below.refl _ _).drew, (unhide h2).drew⟩
theorem pap_first (hlt : w.heap.size + 2 < gN) (hB : Bx A w wa bv fv ov g m cap f mf fcap E F) (hO : Orig Bq wa og H Ps) (hN : OwnV wa gN zs) (hz : zs.length = 2) (hg : gN < Bq) (hgp : PBk (fun k => no3 A w.heap.size k ∧ k < gN) wa g m cap f mf fcap E F) (hA : A gN) (hn : H.length = n) :
    ∃ pg B : Nat, Value.pointer (some ⟨gN, 0, none⟩) = .pointer (some ⟨pg, 0, none⟩) ∧ Hid (Bx A w ((wa.setCell ⟨gN, 0, none⟩ (.string od)).setCell ⟨gN, 1, none⟩ (.slice (some ⟨og, 0, none⟩) n n)) bv fv ov g m cap f mf fcap E F) ∧ Hid (Pap B ((wa.setCell ⟨gN, 0, none⟩ (.string od)).setCell ⟨gN, 1, none⟩ (.slice (some ⟨og, 0, none⟩) n n)) pg od H) := by
  have hob := hO.base
  have hne : ∀ i, i < H.length → Ps.getD i none ≠ some gN := fun i hi e => by
    rcases hO.who i hi with ⟨e1, _⟩ | ⟨x, e1, _, q, _⟩
    · rw [e1] at e; cases e
    · rw [e1] at e
      simp only [Option.some.injEq] at e
      omega
  have ho := (hO.far (pg := gN) (j := 0) (u := .string od) (by omega) hne).far (pg := gN) (j := 1) (u := .slice (some ⟨og, 0, none⟩) n n) (by omega) hne
  have hp := (hgp.far (b := gN) (i := 0) (u := .string od) (by omega)).far (b := gN) (i := 1) (u := .slice (some ⟨og, 0, none⟩) n n) (by omega)
  refine ⟨gN, 0, rfl, ⟨(hB.kept.setCell (p := ⟨gN, 0, none⟩) hA _).setCell (p := ⟨gN, 1, none⟩) hA _, farN (farN hB.own (by omega) _ _) (by omega) _ _, farN (farN hB.op (by omega) _ _) (by omega) _ _, farN (farN hB.res (by omega) _ _) (by omega) _ _, hp.mono fun _ _ h => h.1⟩,
    og, Ps, ?_, Nat.zero_le _, by omega, ⟨ho.len, Nat.zero_le _, ho.row, fun i hi => (ho.who i hi).imp (fun h => h) fun ⟨x, e, q, _, r⟩ => ⟨x, e, q, Nat.zero_le _, r⟩⟩, hne⟩
  have h9 := (hN.set 0 (.string od) (by omega)).set 1 (.slice (some ⟨og, 0, none⟩) n n) (by rw [List.length_set]; omega)
  match zs, hz with
  | [a, b], _ => rw [hn]; exact h9
end
theorem PBk.ins {A : Nat → Prop} {cur cur' : World} {g m cap f mf fcap g' c' k : Nat} {E : List EBl} {F : List Int} (h : PBk A cur g m cap f mf fcap E F) (x : EBl) (hx : OwnV cur x.2.1 (strs x.1.2.2.2.2) ∧ A x.2.1 ∧ x.1.2.2.2.2.length ≤ x.2.2 ∧ x.2.2 ≤ maxLen) (hxn : ∀ y ∈ E, y.2.1 ≠ x.2.1) (hxg : x.2.1 ≠ g) (hxf : x.2.1 ≠ f)
    (hr : RowB 40 5 eBl 0 cur' (some ⟨g', 0, none⟩) (m + 1) c' (insL E k x)) (hk : Kept (fun b => b = g) cur cur') (hor : g' = g ∨ cur.heap.size ≤ g') (hA : ∀ j, cur.heap.size ≤ j → A j) : PBk A cur' g' (m + 1) c' f mf fcap (insL E k x) F := by
  obtain ⟨-, -, -, hfl, -⟩ := h.frow.ownG (by omega)
  have hne : ∀ j, j < cur.heap.size → j ≠ g → j ≠ g' := fun j hj hjg e => by
    rcases hor with h1 | h1 <;> omega
  have hH : OwnH A cur' g E := h.hld.kept hk fun y hy => (h.hld.own y hy).2.2.1
  have hH' : OwnH A cur' g' E := ⟨fun y hy => by
    obtain ⟨a1, a2, a3, a4⟩ := hH.own y hy
    exact ⟨a1, a2, hne _ (h.hld.own y hy).1.lt a3, a4⟩, hH.apart⟩
  refine ⟨hr, ?_, bill_one A cur' g' E hH' x ⟨hx.1.kept hk hxg, hx.2.1, hne _ hx.1.lt hxg, hx.2.2⟩ hxn, h.frow.kept hk (fun f' e _ _ => by simp only [Option.some.injEq, Addr.mk.injEq, and_true] at e; subst e; exact h.fne), h.ftop, hne f hfl h.fne, fun y hy => ?_⟩
  · rcases hor with rfl | h1
    · exact h.top
    · exact hA _ h1
  · simp only [insL, List.mem_append, List.mem_cons] at hy
    rcases hy with hy | hy | hy
    · exact h.fap y (List.mem_of_mem_take hy)
    · rw [hy]; exact hxf
    · exact h.fap y (List.mem_of_mem_drop hy)

set_option maxRecDepth 100000 in
set_option maxHeartbeats 8000000 in
theorem issued_any (A : Nat → Prop) (g m cap f mf fcap : Nat) (E : List EBl) (F : List Int) (id : Int) (who tt : ByteArray) (num : Int) (mN : Nat) (w : World) (h : PBk A w g m cap f mf fcap E F) (hA : ∀ k, w.heap.size ≤ k → A k) (hbd : Bd (bills E, F)) (hbk : bookB (bills E, F) = true) (hop : opB (1, id, who, tt, num, (mN : Int)) = true) :
    Calls Try.prog 64 #[vBook (.slice (some ⟨g, 0, none⟩) m cap) (.slice (some ⟨f, 0, none⟩) mf fcap), vBillOp 1 id who tt num (mN : Int)] w fun e w' => PAns A w (doB (bills E, F) (1, id, who, tt, num, (mN : Int))) e w' := by
  have hmm := op_many hop (Or.inl rfl)
  dsimp only at hmm
  have hwn : who ≠ nob := by
    have h9 : nameB who = true := by
      simp only [opB, Bool.and_eq_true] at hop
      exact hop.1.2
    have := name_some h9
    simpa [noB] using this
  obtain ⟨hEl, hFl⟩ := h.lens
  obtain ⟨h30, hup, -⟩ := book_parts hbk
  have hasc := up_asc hup
  have EDO : Hid (doB (bills E, F) (1, id, who, tt, num, (mN : Int)) = if hasB (bills E) id || decide (30 ≤ (bills E).length) then ((bills E, F), 2) else ((insL (bills E) (plc (bills E) id) (id, who, tt, (mN : Int), List.replicate mN who), F), 0)) := by
    show _ = _
    unfold doB
    rw [if_neg (by rw [hbk, hop]; simp), if_pos rfl]
    rfl
  have HB0 := hide (bx_new h #[.slice (some ⟨g, 0, none⟩) m cap, .slice (some ⟨f, 0, none⟩) mf fcap] #[.int .i64 1, .int .i64 id, .string who, .string tt, .int .i64 num, .int .i64 (mN : Int)] #[.slice none 0 0, .slice none 0 0] 27 34 27 rfl rfl)
  obtain ⟨V1, eV1⟩ : ∃ V, V = ((w.alloc (.cells #[.slice (some ⟨g, 0, none⟩) m cap, .slice (some ⟨f, 0, none⟩) mf fcap] 27)).alloc (.cells #[.int .i64 1, .int .i64 id, .string who, .string tt, .int .i64 num, .int .i64 (mN : Int)] 34)).alloc (.cells #[.slice none 0 0, .slice none 0 0] 27) := ⟨_, rfl⟩
  rw [← eV1] at HB0
  have HB : Hid (Bx A w V1 (.slice (some ⟨g, 0, none⟩) m cap) (.slice (some ⟨f, 0, none⟩) mf fcap) [.int .i64 1, .int .i64 id, .string who, .string tt, .int .i64 num, .int .i64 (mN : Int)] g m cap f mf fcap E F) := HB0
  clear HB0
  have QA : Hid (∀ V bv fv, BkIn V bv fv (bills E, F) → Calls Try.prog 45 #[vBook bv fv, .int .i64 id] V fun e w' => e = .returned (.tuple #[.int .i64 (plc (bills E) id : Nat), .bool (hasB (bills E) id)]) ∧ Below V.heap.size V w') := fun V bv fv hV => by
    have := billAt_any bv fv (bills E, F) id V hV hbd.1 hasc
    rwa [at_has hasc] at this
  have hpl : plc (bills E) id ≤ m := by rw [← hEl, ← List.length_map (·.1)]; exact idx_le _ _
  have hm30 : m ≤ 30 := by
    have : (bills E).length = m := by rw [List.length_map, hEl]
    dsimp only at h30
    omega
  have hbl : (bills E).length = m := by rw [List.length_map, hEl]
  rw [hbl] at EDO
  have HBI := hide fun k x => bills_ins E k x
  clear h hbk hop hup hasc h30 hbd
  generalize hasB (bills E) id = z at *
  obtain ⟨k, ek⟩ : ∃ k, k = plc (bills E) id := ⟨_, rfl⟩
  rw [← ek] at EDO QA hpl
  clear ek hbl
  unfold vBook at QA
  unfold vBook vBillOp
  go_enter Try.func64, Try.ntmps64
  go_upto_region 1 with (fail)
  rw [← eV1]
  clear eV1
  have q0 := (unhide HB).own.cell (i := 0) rfl
  have q1 := (unhide HB).own.cell (i := 1) rfl
  have o1 := (unhide HB).op.cell (i := 1) rfl
  go_wp2_with fail
  refine (unhide QA _ _ _ (unhide HB).pbk.inn).mono ?_
  rintro e w1 ⟨rfl, hb⟩
  replace HB := hide ((unhide HB).step hb)
  clear hb QA q0 q1 o1
  have q0 := (unhide HB).own.cell (i := 0) rfl
  have q1 := (unhide HB).own.cell (i := 1) rfl
  have d30 : decide (30 ≤ (m : Int)) = decide (30 ≤ m) := decide_eq_decide.2 (by omega)
  cases hz : z with
  | true =>
    subst hz

    have r0 := (unhide HB).res.cell (i := 0) rfl
    have r1 := (unhide HB).res.cell (i := 1) rfl
    have rf := (unhide HB).res.frozen
    have HR := hide ((unhide HB).res2 (.slice (some ⟨g, 0, none⟩) m cap) (.slice (some ⟨f, 0, none⟩) mf fcap))
    have hn1 : ¬ w.heap.size = w.heap.size + 2 := by omega
    go_wp2
    have k0 := (unhide HR).2.1.cell (i := 0) rfl
    have k1 := (unhide HR).2.1.cell (i := 1) rfl
    refine bodyPost_ret (v := .tuple #[vBook (.slice (some ⟨g, 0, none⟩) m cap) (.slice (some ⟨f, 0, none⟩) mf fcap), .int .i64 2]) (by simp [results, Try.results64, go_sem, vBook, k0, k1]) rfl ?_
    show PAns _ _ _ _ _
    rw [unhide EDO, if_pos (by simp)]
    exact ⟨g, m, cap, f, mf, fcap, E, rfl, rfl, (unhide HR).2.2, keptOr (unhide HR).1⟩
  | false =>
    subst hz
    by_cases hm3 : 30 ≤ m
    · have hz : 30 ≤ m := hm3
      have d31 : decide (30 ≤ (m : Int)) = true := by rw [decide_eq_true_eq]; omega
      clear d30
      have r0 := (unhide HB).res.cell (i := 0) rfl
      have r1 := (unhide HB).res.cell (i := 1) rfl
      have rf := (unhide HB).res.frozen
      have HR := hide ((unhide HB).res2 (.slice (some ⟨g, 0, none⟩) m cap) (.slice (some ⟨f, 0, none⟩) mf fcap))
      have hn1 : ¬ w.heap.size = w.heap.size + 2 := by omega
      go_wp2
      have k0 := (unhide HR).2.1.cell (i := 0) rfl
      have k1 := (unhide HR).2.1.cell (i := 1) rfl
      refine bodyPost_ret (v := .tuple #[vBook (.slice (some ⟨g, 0, none⟩) m cap) (.slice (some ⟨f, 0, none⟩) mf fcap), .int .i64 2]) (by simp [results, Try.results64, go_sem, vBook, k0, k1]) rfl ?_
      show PAns _ _ _ _ _
      rw [unhide EDO, if_pos (by simp [hz])]
      exact ⟨g, m, cap, f, mf, fcap, E, rfl, rfl, (unhide HR).2.2, keptOr (unhide HR).1⟩
    have d31 : decide (30 ≤ (m : Int)) = false := by rw [decide_eq_false_iff_not]; omega
    have d32 : decide (30 ≤ m) = false := by rw [decide_eq_false_iff_not]; omega
    rw [d32] at EDO
    have EDN : Hid (doB (bills E, F) (1, id, who, tt, num, (mN : Int)) = ((insL (bills E) k (id, who, tt, (mN : Int), List.replicate mN who), F), 0)) := by
      show _ = _
      rw [unhide EDO]; rfl
    clear EDO d30 d32 hm3
    have o1 := (unhide HB).op.cell (i := 1) rfl
    have o2 := (unhide HB).op.cell (i := 2) rfl
    have o3 := (unhide HB).op.cell (i := 3) rfl
    have o5 := (unhide HB).op.cell (i := 5) rfl
    have QO := hide fun V => originalsFor_any who mN V hwn (by omega)
    have hltw := (unhide HB).lt
    have HPL := hide ((unhide HB).pbk.mono (A' := fun k => no3 A w.heap.size k ∧ k < w1.heap.size) (fun _ h1 h2 => ⟨h2, h1⟩))
    go_upto_region 4 with (fail)
    go_cut [8] (fun s8 wx => ∃ pg B : Nat, s8 = .pointer (some ⟨pg, 0, none⟩) ∧ Hid (Bx A w wx (.slice (some ⟨g, 0, none⟩) m cap) (.slice (some ⟨f, 0, none⟩) mf fcap) [.int .i64 1, .int .i64 id, .string who, .string tt, .int .i64 num, .int .i64 (mN : Int)] g m cap f mf fcap E F) ∧ Hid (Pap B wx pg tt (List.replicate mN who)))
    case first =>
      go_region_held3 (fun w' => w'.cell? ⟨w.heap.size + 1, 2, none⟩ = some (.string who) ∧ w'.cell? ⟨w.heap.size + 1, 3, none⟩ = some (.string tt) ∧ w'.cell? ⟨w.heap.size + 1, 5, none⟩ = some (.int .i64 (mN : Int))) (go_keep) (first
        | (go_at_call 85; refine (unhide QO _).mono ?_; rintro e wa ⟨og, Ps, rfl, hO, hb⟩; (first | (have HB' := hide ((unhide HB).step hb); have HPL' := hide ((unhide HPL).step hb)) | (have HB' := hide ((unhide HB).step (below_undrewA hb)); have HPL' := hide ((unhide HPL).step (below_undrewA hb))) | (have HB' := hide ((unhide HB).step (Below.step (Below.alloc1 _ _) hb)); have HPL' := hide ((unhide HPL).step (Below.step (Below.alloc1 _ _) hb)); have HNW := hide (OwnV.step (ownV_alloc _ _ _) hb); have hNo := Nat.lt_of_lt_of_le (OwnV.lt (ownV_alloc _ _ _)) hO.base) | (have HB' := hide ((unhide HB).step (Below.step (Below.alloc1 _ _) (below_undrewA hb))); have HPL' := hide ((unhide HPL).step (Below.step (Below.alloc1 _ _) (below_undrewA hb))); have HNW := hide (OwnV.step (OwnV.drew (ownV_alloc _ _ _)) hb); have hNo := Nat.lt_of_lt_of_le (OwnV.lt (OwnV.drew (ownV_alloc _ _ _))) hO.base)); replace HB := HB'; replace HPL := HPL'; clear HB' HPL'; have HOR := hide hO; have t2 := (unhide HB).op.cell (i := 2) rfl; have t3 := (unhide HB).op.cell (i := 3) rfl; have t5 := (unhide HB).op.cell (i := 5) rfl; (try (have n0 := (unhide HNW).cell (i := 0) rfl; have n1 := (unhide HNW).cell (i := 1) rfl; have nf := (unhide HNW).frozen)); have zz1 : ¬ w1.heap.size = w.heap.size + 1 := (by omega); have zz2 : ¬ w.heap.size + 1 = w1.heap.size := (by omega); clear hb hO))
      all_goals
        go_wp2_with fail
        go_meet
        first
          | exact pap_last (unhide HB) (unhide HOR) (by simp)
          | exact pap_last' (unhide HB) (unhide HOR) (by simp)
          | exact pap_first hltw (unhide HB) (unhide HOR) (unhide HNW) rfl (by first | exact OwnV.lt (ownV_alloc _ _ _) | exact OwnV.lt (OwnV.drew (ownV_alloc _ _ _))) (unhide HPL) (hA _ (by omega)) (by simp)
    case rest =>
      clear HB QO q0 q1 o1 o2 o3 o5 hltw HPL
      obtain ⟨pg, B, rfl, HB, HP⟩ := hcut
      have QW := hide fun V hV => written_any B pg tt (List.replicate mN who) id who nob 0 none 0 0 V hV (by rw [List.length_replicate]; omega)
      rw [List.length_replicate] at QW
      unfold vBill at QW
      go_wp2_with fail
      go_cut [] (fun wx => ∃ (g' c' : Nat) (E' : List EBl), Hid (bills E' = insL (bills E) k (id, who, tt, (mN : Int), List.replicate mN who)) ∧ Hid (Bx A w wx (.slice (some ⟨g', 0, none⟩) (m + 1) c') (.slice (some ⟨f, 0, none⟩) mf fcap) [.int .i64 1, .int .i64 id, .string who, .string tt, .int .i64 num, .int .i64 (mN : Int)] g' (m + 1) c' f mf fcap E' F))
      case first =>
        replace HB := hide ((unhide HB).step (Below.refl _ _).drew)
        replace HP := hide (unhide HP).drew
        refine wp_region_held_drew (S := fun w' => w'.cell? ⟨w.heap.size + 1, 1, none⟩ = some (.int .i64 id) ∧ w'.cell? ⟨w.heap.size + 1, 2, none⟩ = some (.string who)) (by kernel_rfl) ⟨(unhide HB).op.cell (i := 1) rfl, (unhide HB).op.cell (i := 2) rfl⟩ (fun hHeld => ?_)

        refine wpAnyH_take (i := 0) (v := ?_) rfl (by kernel_rfl) (by kernel_rfl) (by kernel_rfl) (fun _ _ _ h => h) (Or.inl ⟨by rfl, ?_⟩) (by assumption) ?_
        rotate_left
        · intro wy hSw
          obtain ⟨hS0, hS1⟩ := hSw
          go_simp
          try with_reducible rfl
        try simp only [Act.put, List.getElem_toArray, List.getElem_cons_zero, List.setIfInBounds_toArray, List.set_cons_zero, List.set_cons_succ]
        refine wpAnyH_take (i := 2) (v := ?_) rfl (by kernel_rfl) (by kernel_rfl) (by kernel_rfl) (fun _ _ _ h => h) (Or.inl ⟨by rfl, ?_⟩) (by assumption) ?_
        rotate_left
        · intro wy hSw
          obtain ⟨hS0, hS1⟩ := hSw
          go_simp
          try with_reducible rfl
        try simp only [Act.put, List.getElem_toArray, List.getElem_cons_succ, List.getElem_cons_zero, List.setIfInBounds_toArray, List.set_cons_zero, List.set_cons_succ]
        refine wpAnyH_take (i := 3) (v := ?_) rfl (by kernel_rfl) (by kernel_rfl) (by kernel_rfl) (fun _ _ _ h => h) (Or.inl ⟨by rfl, ?_⟩) (by assumption) ?_
        rotate_left
        · intro wy hSw
          obtain ⟨hS0, hS1⟩ := hSw
          go_simp
          try with_reducible rfl
        try simp only [Act.put, List.getElem_toArray, List.getElem_cons_succ, List.getElem_cons_zero, List.setIfInBounds_toArray, List.set_cons_zero, List.set_cons_succ]
        refine wpAnyH_take (i := 4) (v := ?_) rfl (by kernel_rfl) (by kernel_rfl) (by kernel_rfl) (fun _ _ _ h => h) (Or.inl ⟨by rfl, ?_⟩) (by assumption) ?_
        rotate_left
        · intro wy hSw
          obtain ⟨hS0, hS1⟩ := hSw
          go_simp
          try with_reducible rfl
        try simp only [Act.put, List.getElem_toArray, List.getElem_cons_succ, List.getElem_cons_zero, List.setIfInBounds_toArray, List.set_cons_zero, List.set_cons_succ]
        refine wpAnyH_take (i := 5) (v := ?_) rfl (by kernel_rfl) (by kernel_rfl) (by kernel_rfl) (fun _ _ _ h => h) (Or.inl ⟨by rfl, ?_⟩) (by assumption) ?_
        rotate_left
        · intro wy hSw
          obtain ⟨hS0, hS1⟩ := hSw
          go_simp
          try with_reducible rfl
        try simp only [Act.put, List.getElem_toArray, List.getElem_cons_succ, List.getElem_cons_zero, List.setIfInBounds_toArray, List.set_cons_zero, List.set_cons_succ]
        refine wpAnyH_take (i := 6) (v := ?_) rfl (by kernel_rfl) (by kernel_rfl) (by kernel_rfl) (fun _ _ _ h => h) (Or.inl ⟨by rfl, ?_⟩) (by assumption) ?_
        rotate_left
        · intro wy hSw
          obtain ⟨hS0, hS1⟩ := hSw
          go_simp
          try with_reducible rfl
        try simp only [Act.put, List.getElem_toArray, List.getElem_cons_succ, List.getElem_cons_zero, List.setIfInBounds_toArray, List.set_cons_zero, List.set_cons_succ]
        refine wpAnyH_take (i := 7) (v := ?_) rfl (by kernel_rfl) (by kernel_rfl) (by kernel_rfl) (fun _ _ _ h => h) (Or.inl ⟨by rfl, ?_⟩) (by assumption) ?_
        rotate_left
        · intro wy hSw
          obtain ⟨hS0, hS1⟩ := hSw
          go_simp
          try with_reducible rfl
        try simp only [Act.put, List.getElem_toArray, List.getElem_cons_succ, List.getElem_cons_zero, List.setIfInBounds_toArray, List.set_cons_zero, List.set_cons_succ]
        refine wpAnyH_ready (rs := [1, 8]) (by kernel_rfl) (by simp) ?_
        refine AllReadyH.cons rfl (fun K hK => ?_) ?_
        ·
          have c0 := (unhide HB).own.cell (i := 0) rfl
          go_simp
          refine hK.out _ _ ⟨(unhide HB).op.cell (i := 1) rfl, (unhide HB).op.cell (i := 2) rfl⟩ (fun hHeld => ?_)
          clear hK K c0
          try simp only [Act.put, List.setIfInBounds_toArray, List.set_cons_zero, List.set_cons_succ]
          refine wpAnyH_ready (rs := [8]) (by kernel_rfl) (by simp) ?_
          refine AllReadyH.cons rfl (fun K hK => ?_) AllReadyH.nil
          go_simp
          refine (unhide QW _ (unhide HP)).mono ?_
          rintro e w2 ⟨gh, rfl, hgh, hoh, hb⟩
          have hBg := (unhide HB).lt
          have HEl : Hid (∀ y ∈ E, y.2.1 < gh) := fun y hy => Nat.lt_of_lt_of_le ((unhide HB).pbk.hld.own y hy).1.lt hgh
          have hgg : g < gh := Nat.lt_of_lt_of_le ((unhide HB).pbk.row.ownG (by omega)).2.2.2.1 hgh
          have hfg : f < gh := Nat.lt_of_lt_of_le ((unhide HB).pbk.frow.ownG (by omega)).2.2.2.1 hgh
          have hgh2 : w.heap.size + 2 < gh := Nat.lt_of_lt_of_le hBg hgh
          replace HB := hide ((unhide HB).step hb)
          have HH := hide hoh
          clear hb hoh hgh hBg
          refine hK.out _ _ ⟨(unhide HB).op.cell (i := 1) rfl, (unhide HB).op.cell (i := 2) rfl⟩ (fun hHeld => ?_)
          clear hK K
          try simp only [Act.put, List.setIfInBounds_toArray, List.set_cons_zero, List.set_cons_succ]
          refine wpAnyH_ready (rs := [9]) (by kernel_rfl) (by simp) ?_
          refine AllReadyH.cons rfl (fun K hK => ?_) AllReadyH.nil
          have A9 := Below.alloc1 w2 (.cells #[.int .i64 id, .string who, .string tt, .int .i64 (mN : Int), .slice (some ⟨gh, 0, none⟩) mN mN] 40)
          have HBv : Hid (Blk (w2.alloc (.cells #[.int .i64 id, .string who, .string tt, .int .i64 (mN : Int), .slice (some ⟨gh, 0, none⟩) mN mN] 40)) w2.heap.size 40 ((List.range 5).map (eBl ((id, who, tt, (mN : Int), List.replicate mN who), gh, mN)))) := by
            show Blk _ _ _ _
            rw [show (List.range 5).map (eBl ((id, who, tt, (mN : Int), List.replicate mN who), gh, mN)) = [.int .i64 id, .string who, .string tt, .int .i64 (mN : Int), .slice (some ⟨gh, 0, none⟩) mN mN] by simp [List.range, List.range.loop, eBl]]
            exact Go.Deep.blk_alloc_new w2 _
          have hvb1 : g < w2.heap.size := ((unhide HB).pbk.row.ownG (by omega)).2.2.2.1
          have hszw := (unhide HB).lt
          replace HB := hide ((unhide HB).step A9)
          replace HH := hide ((unhide HH).step A9)
          clear A9
          go_simp
          refine hK.out _ _ ⟨(unhide HB).op.cell (i := 1) rfl, (unhide HB).op.cell (i := 2) rfl⟩ (fun hHeld => ?_)
          clear hK K
          try simp only [Act.put, List.setIfInBounds_toArray, List.set_cons_zero, List.set_cons_succ]
          refine wpAnyH_ready (rs := [10]) (by kernel_rfl) (by simp) ?_
          refine AllReadyH.cons rfl (fun K hK => ?_) AllReadyH.nil
          have QI := hide (insBill_any g m cap k w2.heap.size E ((id, who, tt, (mN : Int), List.replicate mN who), gh, mN) _ (unhide HB).pbk.row (unhide HBv) (by omega) hpl (by omega) (eBl_one E) (eBl_one1 _))
          go_simp
          refine (unhide QI).mono ?_
          rintro e w3 ⟨g', c', rfl, hr, hk, hor⟩
          have hB := unhide HB
          have hlz := hB.lt
          have hpi := hB.pbk.ins ((id, who, tt, (mN : Int), List.replicate mN who), gh, mN) ⟨unhide HH, ⟨hA _ (by dsimp only; omega), Or.inr hgh2⟩, by simp, by unfold maxLen; dsimp only; omega⟩ (fun y hy => by have := unhide HEl y hy; dsimp only; omega) (by dsimp only; omega) (by dsimp only; omega) hr hk hor (fun j hj => ⟨hA _ (by omega), Or.inr (by omega)⟩)
          have hkA : Kept A w w3 := hB.kept.trans (hk.mono fun b _ e => by rw [e]; exact hB.pbk.top.1)
          have hng : ¬ w.heap.size = g := by have := hB.pbk.top.2; omega
          have hng1 : ¬ w.heap.size + 1 = g := by have := hB.pbk.top.2; omega
          have hng2 : ¬ w.heap.size + 2 = g := by have := hB.pbk.top.2; omega
          have HN : Hid (Bx A w w3 (.slice (some ⟨g, 0, none⟩) m cap) (.slice (some ⟨f, 0, none⟩) mf fcap) [.int .i64 1, .int .i64 id, .string who, .string tt, .int .i64 num, .int .i64 (mN : Int)] g' (m + 1) c' f mf fcap (insL E k ((id, who, tt, (mN : Int), List.replicate mN who), gh, mN)) F) := ⟨hkA, hB.own.kept hk hng, hB.op.kept hk hng1, hB.res.kept hk hng2, hpi⟩
          clear HB HBv HH HEl QI hB hpi hkA hr hk hor hlz hng hng1 hng2
          have HB := HN
          clear HN
          refine hK.out _ _ ⟨(unhide HB).op.cell (i := 1) rfl, (unhide HB).op.cell (i := 2) rfl⟩ (fun hHeld => ?_)
          clear hK K
          try simp only [Act.put, List.setIfInBounds_toArray, List.set_cons_zero, List.set_cons_succ]
          refine wpAnyH_take (i := 11) (v := ?_) rfl (by kernel_rfl) (by kernel_rfl) (by kernel_rfl) (fun _ _ _ h => h) (Or.inl ⟨by rfl, ?_⟩) (by assumption) ?_
          rotate_left
          · intro wy hSw
            obtain ⟨hS0, hS1⟩ := hSw
            go_simp
            try with_reducible rfl
          try simp only [Act.put, List.getElem_toArray, List.getElem_cons_succ, List.getElem_cons_zero, List.setIfInBounds_toArray, List.set_cons_zero, List.set_cons_succ]
          refine wpAnyH_ready (rs := [12]) (by kernel_rfl) (by simp) ?_
          refine AllReadyH.cons rfl (fun K hK => ?_) AllReadyH.nil
          have c0 := (unhide HB).own.cell (i := 0) rfl
          have cf := (unhide HB).own.frozen
          have HN : Hid (Bx A w (w3.setCell ⟨w.heap.size, 0, none⟩ (.slice (some ⟨g', 0, none⟩) (m + 1) c')) (.slice (some ⟨g', 0, none⟩) (m + 1) c') (.slice (some ⟨f, 0, none⟩) mf fcap) [.int .i64 1, .int .i64 id, .string who, .string tt, .int .i64 num, .int .i64 (mN : Int)] g' (m + 1) c' f mf fcap (insL E k ((id, who, tt, (mN : Int), List.replicate mN who), gh, mN)) F) := by
            have h9 := unhide HB
            exact ⟨h9.kept.setCell (p := ⟨w.heap.size, 0, none⟩) (hA _ (Nat.le_refl _)) _, h9.own.set 0 _ (by simp), farN h9.op (by omega) _ _, farN h9.res (by omega) _ _, h9.pbk.far (by unfold no3; omega)⟩
          clear HB
          have HB := HN
          clear HN
          go_simp
          refine hK.out _ _ ⟨(unhide HB).op.cell (i := 1) rfl, (unhide HB).op.cell (i := 2) rfl⟩ (fun hHeld => ?_)
          clear hK K c0 cf
          try simp only [Act.put, List.setIfInBounds_toArray, List.set_cons_zero, List.set_cons_succ]
          refine wpAnyH_done (by kernel_rfl) ?_ _
          go_wp2_with fail
          go_meet
          exact ⟨g', c', _, unhide HBI k ((id, who, tt, (mN : Int), List.replicate mN who), gh, mN), HB⟩
        refine AllReadyH.cons rfl (fun K hK => ?_) AllReadyH.nil
        go_simp
        refine (unhide QW _ (unhide HP)).mono ?_
        rintro e w2 ⟨gh, rfl, hgh, hoh, hb⟩
        have hBg := (unhide HB).lt
        have HEl : Hid (∀ y ∈ E, y.2.1 < gh) := fun y hy => Nat.lt_of_lt_of_le ((unhide HB).pbk.hld.own y hy).1.lt hgh
        have hgg : g < gh := Nat.lt_of_lt_of_le ((unhide HB).pbk.row.ownG (by omega)).2.2.2.1 hgh
        have hfg : f < gh := Nat.lt_of_lt_of_le ((unhide HB).pbk.frow.ownG (by omega)).2.2.2.1 hgh
        have hgh2 : w.heap.size + 2 < gh := Nat.lt_of_lt_of_le hBg hgh
        replace HB := hide ((unhide HB).step hb)
        have HH := hide hoh
        clear hb hoh hgh hBg
        refine hK.out _ _ ⟨(unhide HB).op.cell (i := 1) rfl, (unhide HB).op.cell (i := 2) rfl⟩ (fun hHeld => ?_)
        clear hK K
        try simp only [Act.put, List.setIfInBounds_toArray, List.set_cons_zero, List.set_cons_succ]
        refine wpAnyH_ready (rs := [1, 9]) (by kernel_rfl) (by simp) ?_
        refine AllReadyH.cons rfl (fun K hK => ?_) ?_
        ·
          have c0 := (unhide HB).own.cell (i := 0) rfl
          go_simp
          refine hK.out _ _ ⟨(unhide HB).op.cell (i := 1) rfl, (unhide HB).op.cell (i := 2) rfl⟩ (fun hHeld => ?_)
          clear hK K c0
          try simp only [Act.put, List.setIfInBounds_toArray, List.set_cons_zero, List.set_cons_succ]
          refine wpAnyH_ready (rs := [9]) (by kernel_rfl) (by simp) ?_
          refine AllReadyH.cons rfl (fun K hK => ?_) AllReadyH.nil
          have A9 := Below.alloc1 w2 (.cells #[.int .i64 id, .string who, .string tt, .int .i64 (mN : Int), .slice (some ⟨gh, 0, none⟩) mN mN] 40)
          have HBv : Hid (Blk (w2.alloc (.cells #[.int .i64 id, .string who, .string tt, .int .i64 (mN : Int), .slice (some ⟨gh, 0, none⟩) mN mN] 40)) w2.heap.size 40 ((List.range 5).map (eBl ((id, who, tt, (mN : Int), List.replicate mN who), gh, mN)))) := by
            show Blk _ _ _ _
            rw [show (List.range 5).map (eBl ((id, who, tt, (mN : Int), List.replicate mN who), gh, mN)) = [.int .i64 id, .string who, .string tt, .int .i64 (mN : Int), .slice (some ⟨gh, 0, none⟩) mN mN] by simp [List.range, List.range.loop, eBl]]
            exact Go.Deep.blk_alloc_new w2 _
          have hvb1 : g < w2.heap.size := ((unhide HB).pbk.row.ownG (by omega)).2.2.2.1
          have hszw := (unhide HB).lt
          replace HB := hide ((unhide HB).step A9)
          replace HH := hide ((unhide HH).step A9)
          clear A9
          go_simp
          refine hK.out _ _ ⟨(unhide HB).op.cell (i := 1) rfl, (unhide HB).op.cell (i := 2) rfl⟩ (fun hHeld => ?_)
          clear hK K
          try simp only [Act.put, List.setIfInBounds_toArray, List.set_cons_zero, List.set_cons_succ]
          refine wpAnyH_ready (rs := [10]) (by kernel_rfl) (by simp) ?_
          refine AllReadyH.cons rfl (fun K hK => ?_) AllReadyH.nil
          have QI := hide (insBill_any g m cap k w2.heap.size E ((id, who, tt, (mN : Int), List.replicate mN who), gh, mN) _ (unhide HB).pbk.row (unhide HBv) (by omega) hpl (by omega) (eBl_one E) (eBl_one1 _))
          go_simp
          refine (unhide QI).mono ?_
          rintro e w3 ⟨g', c', rfl, hr, hk, hor⟩
          have hB := unhide HB
          have hlz := hB.lt
          have hpi := hB.pbk.ins ((id, who, tt, (mN : Int), List.replicate mN who), gh, mN) ⟨unhide HH, ⟨hA _ (by dsimp only; omega), Or.inr hgh2⟩, by simp, by unfold maxLen; dsimp only; omega⟩ (fun y hy => by have := unhide HEl y hy; dsimp only; omega) (by dsimp only; omega) (by dsimp only; omega) hr hk hor (fun j hj => ⟨hA _ (by omega), Or.inr (by omega)⟩)
          have hkA : Kept A w w3 := hB.kept.trans (hk.mono fun b _ e => by rw [e]; exact hB.pbk.top.1)
          have hng : ¬ w.heap.size = g := by have := hB.pbk.top.2; omega
          have hng1 : ¬ w.heap.size + 1 = g := by have := hB.pbk.top.2; omega
          have hng2 : ¬ w.heap.size + 2 = g := by have := hB.pbk.top.2; omega
          have HN : Hid (Bx A w w3 (.slice (some ⟨g, 0, none⟩) m cap) (.slice (some ⟨f, 0, none⟩) mf fcap) [.int .i64 1, .int .i64 id, .string who, .string tt, .int .i64 num, .int .i64 (mN : Int)] g' (m + 1) c' f mf fcap (insL E k ((id, who, tt, (mN : Int), List.replicate mN who), gh, mN)) F) := ⟨hkA, hB.own.kept hk hng, hB.op.kept hk hng1, hB.res.kept hk hng2, hpi⟩
          clear HB HBv HH HEl QI hB hpi hkA hr hk hor hlz hng hng1 hng2
          have HB := HN
          clear HN
          refine hK.out _ _ ⟨(unhide HB).op.cell (i := 1) rfl, (unhide HB).op.cell (i := 2) rfl⟩ (fun hHeld => ?_)
          clear hK K
          try simp only [Act.put, List.setIfInBounds_toArray, List.set_cons_zero, List.set_cons_succ]
          refine wpAnyH_take (i := 11) (v := ?_) rfl (by kernel_rfl) (by kernel_rfl) (by kernel_rfl) (fun _ _ _ h => h) (Or.inl ⟨by rfl, ?_⟩) (by assumption) ?_
          rotate_left
          · intro wy hSw
            obtain ⟨hS0, hS1⟩ := hSw
            go_simp
            try with_reducible rfl
          try simp only [Act.put, List.getElem_toArray, List.getElem_cons_succ, List.getElem_cons_zero, List.setIfInBounds_toArray, List.set_cons_zero, List.set_cons_succ]
          refine wpAnyH_ready (rs := [12]) (by kernel_rfl) (by simp) ?_
          refine AllReadyH.cons rfl (fun K hK => ?_) AllReadyH.nil
          have c0 := (unhide HB).own.cell (i := 0) rfl
          have cf := (unhide HB).own.frozen
          have HN : Hid (Bx A w (w3.setCell ⟨w.heap.size, 0, none⟩ (.slice (some ⟨g', 0, none⟩) (m + 1) c')) (.slice (some ⟨g', 0, none⟩) (m + 1) c') (.slice (some ⟨f, 0, none⟩) mf fcap) [.int .i64 1, .int .i64 id, .string who, .string tt, .int .i64 num, .int .i64 (mN : Int)] g' (m + 1) c' f mf fcap (insL E k ((id, who, tt, (mN : Int), List.replicate mN who), gh, mN)) F) := by
            have h9 := unhide HB
            exact ⟨h9.kept.setCell (p := ⟨w.heap.size, 0, none⟩) (hA _ (Nat.le_refl _)) _, h9.own.set 0 _ (by simp), farN h9.op (by omega) _ _, farN h9.res (by omega) _ _, h9.pbk.far (by unfold no3; omega)⟩
          clear HB
          have HB := HN
          clear HN
          go_simp
          refine hK.out _ _ ⟨(unhide HB).op.cell (i := 1) rfl, (unhide HB).op.cell (i := 2) rfl⟩ (fun hHeld => ?_)
          clear hK K c0 cf
          try simp only [Act.put, List.setIfInBounds_toArray, List.set_cons_zero, List.set_cons_succ]
          refine wpAnyH_done (by kernel_rfl) ?_ _
          go_wp2_with fail
          go_meet
          exact ⟨g', c', _, unhide HBI k ((id, who, tt, (mN : Int), List.replicate mN who), gh, mN), HB⟩
        refine AllReadyH.cons rfl (fun K hK => ?_) AllReadyH.nil
        have A9 := Below.alloc1 w2 (.cells #[.int .i64 id, .string who, .string tt, .int .i64 (mN : Int), .slice (some ⟨gh, 0, none⟩) mN mN] 40)
        have HBv : Hid (Blk (w2.alloc (.cells #[.int .i64 id, .string who, .string tt, .int .i64 (mN : Int), .slice (some ⟨gh, 0, none⟩) mN mN] 40)) w2.heap.size 40 ((List.range 5).map (eBl ((id, who, tt, (mN : Int), List.replicate mN who), gh, mN)))) := by
          show Blk _ _ _ _
          rw [show (List.range 5).map (eBl ((id, who, tt, (mN : Int), List.replicate mN who), gh, mN)) = [.int .i64 id, .string who, .string tt, .int .i64 (mN : Int), .slice (some ⟨gh, 0, none⟩) mN mN] by simp [List.range, List.range.loop, eBl]]
          exact Go.Deep.blk_alloc_new w2 _
        have hvb1 : g < w2.heap.size := ((unhide HB).pbk.row.ownG (by omega)).2.2.2.1
        have hszw := (unhide HB).lt
        replace HB := hide ((unhide HB).step A9)
        replace HH := hide ((unhide HH).step A9)
        clear A9
        go_simp
        refine hK.out _ _ ⟨(unhide HB).op.cell (i := 1) rfl, (unhide HB).op.cell (i := 2) rfl⟩ (fun hHeld => ?_)
        clear hK K
        try simp only [Act.put, List.setIfInBounds_toArray, List.set_cons_zero, List.set_cons_succ]
        refine wpAnyH_ready (rs := [1]) (by kernel_rfl) (by simp) ?_
        refine AllReadyH.cons rfl (fun K hK => ?_) AllReadyH.nil
        have c0 := (unhide HB).own.cell (i := 0) rfl
        go_simp
        refine hK.out _ _ ⟨(unhide HB).op.cell (i := 1) rfl, (unhide HB).op.cell (i := 2) rfl⟩ (fun hHeld => ?_)
        clear hK K c0
        try simp only [Act.put, List.setIfInBounds_toArray, List.set_cons_zero, List.set_cons_succ]
        refine wpAnyH_ready (rs := [10]) (by kernel_rfl) (by simp) ?_
        refine AllReadyH.cons rfl (fun K hK => ?_) AllReadyH.nil
        have QI := hide (insBill_any g m cap k w2.heap.size E ((id, who, tt, (mN : Int), List.replicate mN who), gh, mN) _ (unhide HB).pbk.row (unhide HBv) (by omega) hpl (by omega) (eBl_one E) (eBl_one1 _))
        go_simp
        refine (unhide QI).mono ?_
        rintro e w3 ⟨g', c', rfl, hr, hk, hor⟩
        have hB := unhide HB
        have hlz := hB.lt
        have hpi := hB.pbk.ins ((id, who, tt, (mN : Int), List.replicate mN who), gh, mN) ⟨unhide HH, ⟨hA _ (by dsimp only; omega), Or.inr hgh2⟩, by simp, by unfold maxLen; dsimp only; omega⟩ (fun y hy => by have := unhide HEl y hy; dsimp only; omega) (by dsimp only; omega) (by dsimp only; omega) hr hk hor (fun j hj => ⟨hA _ (by omega), Or.inr (by omega)⟩)
        have hkA : Kept A w w3 := hB.kept.trans (hk.mono fun b _ e => by rw [e]; exact hB.pbk.top.1)
        have hng : ¬ w.heap.size = g := by have := hB.pbk.top.2; omega
        have hng1 : ¬ w.heap.size + 1 = g := by have := hB.pbk.top.2; omega
        have hng2 : ¬ w.heap.size + 2 = g := by have := hB.pbk.top.2; omega
        have HN : Hid (Bx A w w3 (.slice (some ⟨g, 0, none⟩) m cap) (.slice (some ⟨f, 0, none⟩) mf fcap) [.int .i64 1, .int .i64 id, .string who, .string tt, .int .i64 num, .int .i64 (mN : Int)] g' (m + 1) c' f mf fcap (insL E k ((id, who, tt, (mN : Int), List.replicate mN who), gh, mN)) F) := ⟨hkA, hB.own.kept hk hng, hB.op.kept hk hng1, hB.res.kept hk hng2, hpi⟩
        clear HB HBv HH HEl QI hB hpi hkA hr hk hor hlz hng hng1 hng2
        have HB := HN
        clear HN
        refine hK.out _ _ ⟨(unhide HB).op.cell (i := 1) rfl, (unhide HB).op.cell (i := 2) rfl⟩ (fun hHeld => ?_)
        clear hK K
        try simp only [Act.put, List.setIfInBounds_toArray, List.set_cons_zero, List.set_cons_succ]
        refine wpAnyH_take (i := 11) (v := ?_) rfl (by kernel_rfl) (by kernel_rfl) (by kernel_rfl) (fun _ _ _ h => h) (Or.inl ⟨by rfl, ?_⟩) (by assumption) ?_
        rotate_left
        · intro wy hSw
          obtain ⟨hS0, hS1⟩ := hSw
          go_simp
          try with_reducible rfl
        try simp only [Act.put, List.getElem_toArray, List.getElem_cons_succ, List.getElem_cons_zero, List.setIfInBounds_toArray, List.set_cons_zero, List.set_cons_succ]
        refine wpAnyH_ready (rs := [12]) (by kernel_rfl) (by simp) ?_
        refine AllReadyH.cons rfl (fun K hK => ?_) AllReadyH.nil
        have c0 := (unhide HB).own.cell (i := 0) rfl
        have cf := (unhide HB).own.frozen
        have HN : Hid (Bx A w (w3.setCell ⟨w.heap.size, 0, none⟩ (.slice (some ⟨g', 0, none⟩) (m + 1) c')) (.slice (some ⟨g', 0, none⟩) (m + 1) c') (.slice (some ⟨f, 0, none⟩) mf fcap) [.int .i64 1, .int .i64 id, .string who, .string tt, .int .i64 num, .int .i64 (mN : Int)] g' (m + 1) c' f mf fcap (insL E k ((id, who, tt, (mN : Int), List.replicate mN who), gh, mN)) F) := by
          have h9 := unhide HB
          exact ⟨h9.kept.setCell (p := ⟨w.heap.size, 0, none⟩) (hA _ (Nat.le_refl _)) _, h9.own.set 0 _ (by simp), farN h9.op (by omega) _ _, farN h9.res (by omega) _ _, h9.pbk.far (by unfold no3; omega)⟩
        clear HB
        have HB := HN
        clear HN
        go_simp
        refine hK.out _ _ ⟨(unhide HB).op.cell (i := 1) rfl, (unhide HB).op.cell (i := 2) rfl⟩ (fun hHeld => ?_)
        clear hK K c0 cf
        try simp only [Act.put, List.setIfInBounds_toArray, List.set_cons_zero, List.set_cons_succ]
        refine wpAnyH_done (by kernel_rfl) ?_ _
        go_wp2_with fail
        go_meet
        exact ⟨g', c', _, unhide HBI k ((id, who, tt, (mN : Int), List.replicate mN who), gh, mN), HB⟩
      case rest =>
        obtain ⟨g', c', E', EE, HB'⟩ := hcut
        clear HB HP QW
        have HB := HB'
        clear HB'
        have q0 := (unhide HB).own.cell (i := 0) rfl
        have q1 := (unhide HB).own.cell (i := 1) rfl
        have r0 := (unhide HB).res.cell (i := 0) rfl
        have r1 := (unhide HB).res.cell (i := 1) rfl
        have rf := (unhide HB).res.frozen
        have HR := hide ((unhide HB).res2 (.slice (some ⟨g', 0, none⟩) (m + 1) c') (.slice (some ⟨f, 0, none⟩) mf fcap))
        have hn1 : ¬ w.heap.size = w.heap.size + 2 := by omega
        go_wp2
        have k0 := (unhide HR).2.1.cell (i := 0) rfl
        have k1 := (unhide HR).2.1.cell (i := 1) rfl
        refine bodyPost_ret (v := .tuple #[vBook (.slice (some ⟨g', 0, none⟩) (m + 1) c') (.slice (some ⟨f, 0, none⟩) mf fcap), .int .i64 0]) (by simp [results, Try.results64, go_sem, vBook, k0, k1]) rfl ?_
        show PAns _ _ _ _ _
        rw [unhide EDN]
        exact ⟨g', m + 1, c', f, mf, fcap, E', rfl, unhide EE, (unhide HR).2.2, keptOr (unhide HR).1⟩

      end Go.Proofs.Ytdcbonfhakdhhaa
