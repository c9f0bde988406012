/- Bills: words for the specification's DoBill: resliced rows, a book with a bill more. -/
import Derived.Test.YtdcbonfhakdhhaaBlY
namespace Go.Proofs.Ytdcbonfhakdhhaa
open Go.RowKit

section
variable {α : Type} [Inhabited α] {n : Nat} {enc : α → Nat → Value} {w : World} {ba : Option Addr} {m cap k : Nat} {L : List α}
theorem recs_len (h : RecsIn n enc w (.slice ba m cap) L) : L.length = m ∧ m ≤ cap ∧ cap ≤ maxLen := by
  obtain ⟨ao, c, e, h1, h2, _⟩ := h
  simp only [Value.slice.injEq] at e
  obtain ⟨rfl, rfl, rfl⟩ := e
  exact ⟨rfl, h1, h2⟩
theorem recs_drop (h : RecsIn n enc w (.slice ba m cap) L) : RecsIn n enc w (.slice (if cap = k then ba else ba.map (·.add (k * n))) (m - k) (cap - k)) (L.drop k) := by
  obtain ⟨hm, hc, hx⟩ := recs_len h
  obtain ⟨ao, c, e, _, _, h3⟩ := h
  simp only [Value.slice.injEq] at e
  obtain ⟨rfl, _, rfl⟩ := e
  refine ⟨_, _, by rw [List.length_drop, hm], by rw [List.length_drop]; omega, by omega, fun i hi => ?_⟩
  rw [List.length_drop] at hi
  obtain ⟨b, o, rfl, hcl⟩ := h3 (k + i) (by omega)
  refine ⟨b, o + k * n, ?_, fun j hj => ?_⟩
  · rw [if_neg (by omega), Option.map_some, Go.WideShapes.add_plain]
  · rw [show o + k * n + (i * n + j) = o + ((k + i) * n + j) by rw [Nat.add_mul]; omega, hcl j hj, getD_lt (by omega), getD_lt (by rw [List.length_drop]; omega), List.getElem_drop]
theorem recs_take (h : RecsIn n enc w (.slice ba m cap) L) (hk : k ≤ m) : RecsIn n enc w (.slice ba k cap) (L.take k) := by
  obtain ⟨hm, hc, hx⟩ := recs_len h
  obtain ⟨ao, c, e, _, _, h3⟩ := h
  simp only [Value.slice.injEq] at e
  obtain ⟨rfl, _, rfl⟩ := e
  have hl : (L.take k).length = k := by rw [List.length_take]; omega
  refine ⟨_, _, by rw [hl], by omega, by omega, fun i hi => ?_⟩
  obtain ⟨b, o, rfl, hcl⟩ := h3 i (by omega)
  refine ⟨b, o, rfl, fun j hj => ?_⟩
  rw [hcl j hj, getD_lt (by omega), getD_lt (by omega), List.getElem_take]
end
theorem mem_ins {α : Type} {L : List α} {k : Nat} {x y : α} (h : y ∈ insL L k x) : y ∈ L ∨ y = x := by
  simp only [insL, List.mem_append, List.mem_cons] at h
  rcases h with h | rfl | h
  · exact Or.inl (List.mem_of_mem_take h)
  · exact Or.inr rfl
  · exact Or.inl (List.mem_of_mem_drop h)
theorem PBk.sbk {A : Nat → Prop} {w : World} {g m cap f mf fcap : Nat} {E : List EBl} {F : List Int} (h : PBk A w g m cap f mf fcap E F) : SBk A w (some ⟨g, 0, none⟩) m cap f mf fcap E F :=
  ⟨h.row, fun g' e => by
    simp only [Option.some.injEq, Addr.mk.injEq, and_true] at e
    subst e
    exact ⟨h.top, (h.row.ownG (by omega)).2.2.2.1, h.fne, fun x hx => (h.hld.own x hx).2.2.1⟩, fun x hx => ⟨(h.hld.own x hx).1, (h.hld.own x hx).2.1, (h.hld.own x hx).2.2.2⟩, h.hld.apart, h.frow, h.ftop, h.fap⟩
/-- A bill more, in a row that is new. -/
theorem SBk.ins {A : Nat → Prop} {W W' : World} {ba : Option Addr} {m cap f mf fcap k g2 cap2 : Nat} {E : List EBl} {F : List Int} {x : EBl} (h : SBk A W ba m cap f mf fcap E F) (hb : Below W.heap.size W W') (hx : OwnV W' x.2.1 (strs x.1.2.2.2.2)) (hxl : x.1.2.2.2.2.length ≤ x.2.2) (hxm : x.2.2 ≤ maxLen) (hxn : W.heap.size ≤ x.2.1) (hg : W.heap.size ≤ g2) (hne : x.2.1 ≠ g2) (hA : ∀ k, W.heap.size ≤ k → A k)
    (hr : RowB 40 5 eBl 0 W' (some ⟨g2, 0, none⟩) (m + 1) cap2 (insL E k x)) : SBk A W' (some ⟨g2, 0, none⟩) (m + 1) cap2 f mf fcap (insL E k x) F := by
  have hfl := (h.frow.ownG (by omega)).2.2.2.1
  have hEl : ∀ y ∈ E, y.2.1 < W.heap.size := fun y hy => (h.hld y hy).1.lt
  have hO : OwnH A W' g2 E := ⟨fun y hy => ⟨(h.hld y hy).1.step hb, (h.hld y hy).2.1, by have := hEl y hy; omega, (h.hld y hy).2.2⟩, h.apart⟩
  have hI := bill_one A W' g2 E hO (k := k) x ⟨hx, hA _ hxn, hne, hxl, hxm⟩ (fun y hy => by have := hEl y hy; omega)
  refine ⟨hr, fun g' e => ?_, fun y hy => ⟨(hI.own y hy).1, (hI.own y hy).2.1, (hI.own y hy).2.2.2⟩, hI.apart, h.frow.below hb, h.ftop, fun y hy => ?_⟩
  · simp only [Option.some.injEq, Addr.mk.injEq, and_true] at e
    subst e
    exact ⟨hA _ hg, (hr.ownG (by omega)).2.2.2.1, by omega, fun y hy => (hI.own y hy).2.2.1⟩
  · rcases mem_ins hy with hy | rfl
    · exact h.fap y hy
    · omega
theorem slice_hi {ba : Option Addr} {m cap k : Nat} (h : ba = none ∨ ∃ g, ba = some ⟨g, 0, none⟩) (hk : (k : Int) ≤ cap) (V : World) : (Instr.slice 24 (.slice ba m cap) none (some (.int .i64 (k : Int))) none).run Try.prog V = .ok (.slice ba k cap) V := by
  rcases h with rfl | ⟨g, rfl⟩
  · simp [go_sem, hk]
  · simp [go_sem, hk, Addr.add]
theorem sliceAt_hi {ba : Option Addr} {m cap k : Nat} (h : ba = none ∨ ∃ g, ba = some ⟨g, 0, none⟩) (hk : (k : Int) ≤ cap) (V : World) : (Instr.sliceAt 24 (.slice ba m cap) none (some (.int .i64 (k : Int))) none).run Try.prog V = .ok (.slice ba k cap) V := by
  rcases h with rfl | ⟨g, rfl⟩
  · simp [go_sem, hk]
  · simp [go_sem, hk, Addr.add]
/-- What is held, with a bill more. -/
theorem Sd.ins {w W W' : World} {av fv : Value} {ov : List Value} {G : Nat} {ba : Option Addr} {m cap f mf fcap k g2 cap2 : Nat} {E : List EBl} {F : List Int} {x : EBl} (h : Sd w W av fv ov G ba m cap f mf fcap E F) (hb : Below W.heap.size W W') (hx : OwnV W' x.2.1 (strs x.1.2.2.2.2)) (hxl : x.1.2.2.2.2.length ≤ x.2.2) (hxm : x.2.2 ≤ maxLen) (hxn : W.heap.size ≤ x.2.1) (hg : W.heap.size ≤ g2) (hne : x.2.1 ≠ g2)
    (hr : RowB 40 5 eBl 0 W' (some ⟨g2, 0, none⟩) (m + 1) cap2 (insL E k x)) : Sd w (W'.setCell ⟨G, 0, none⟩ (.slice (some ⟨g2, 0, none⟩) (m + 1) cap2)) av fv ov G (some ⟨g2, 0, none⟩) (m + 1) cap2 f mf fcap (insL E k x) F := by
  have hs := h.step hb
  have hap := h.ap
  have hl := h.box.lt
  exact ⟨hs.below.setCell (p := ⟨G, 0, none⟩) (by show w.heap.size ≤ G; omega) _, farN hs.arg (by omega) _ _, farN hs.op (by omega) _ _, farN hs.res (by omega) _ _, hs.box.set 0 _ (by simp), (h.bk.ins hb hx hxl hxm hxn hg hne (fun j hj => by unfold sA; omega) hr).far (by unfold sA; omega), hap⟩

end Go.Proofs.Ytdcbonfhakdhhaa
