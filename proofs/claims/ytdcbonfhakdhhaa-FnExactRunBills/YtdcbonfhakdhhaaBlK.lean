/- The program's own book: words; the contract of ownBook. No statement about the program stands here. -/
import Derived.Test.YtdcbonfhakdhhaaBlJ
import Derived.Deep.RegionHeld3
namespace Go.Proofs.Ytdcbonfhakdhhaa
open Go.RowKit

theorem below_undrewA {W W' : World} (hb : Below W.drew.heap.size W.drew W') : Below W.heap.size W W' := ⟨hb.os, hb.tape, hb.output, hb.size, hb.block⟩
/-- A book of the program's own, which may grow: all blocks among A. -/
structure PBk (A : Nat → Prop) (w : World) (g m cap f mf fcap : Nat) (E : List EBl) (F : List Int) : Prop where
  row : RowB 40 5 eBl 0 w (some ⟨g, 0, none⟩) m cap E
  top : A g
  hld : OwnH A w g E
  frow : RowB 3 1 eI 0 w (some ⟨f, 0, none⟩) mf fcap F
  ftop : A f
  fne : f ≠ g
  fap : ∀ x ∈ E, x.2.1 ≠ f
section
variable {A : Nat → Prop} {w w' : World} {g m cap f mf fcap : Nat} {E : List EBl} {F : List Int}
theorem PBk.kept {T : Nat → Prop} (h : PBk A w g m cap f mf fcap E F) (hk : Kept T w w') (hT : ∀ k, A k → ¬ T k) : PBk A w' g m cap f mf fcap E F :=
  ⟨h.row.kept hk (fun g' e _ _ => by simp only [Option.some.injEq, Addr.mk.injEq, and_true] at e; subst e; exact hT _ h.top), h.top, h.hld.kept hk fun x hx => hT _ (h.hld.own x hx).2.1,
    h.frow.kept hk (fun g' e _ _ => by simp only [Option.some.injEq, Addr.mk.injEq, and_true] at e; subst e; exact hT _ h.ftop), h.ftop, h.fne, h.fap⟩
theorem PBk.step (h : PBk A w g m cap f mf fcap E F) (hb : Below w.heap.size w w') : PBk A w' g m cap f mf fcap E F := h.kept (T := fun _ => False) (kept_of_below hb) (fun _ _ h => h)
theorem RowB.ownG {α : Type} [Inhabited α] {T : TypeId} {n : Nat} {enc : α → Nat → Value} {L : List α} (h : RowB T n enc 0 w (some ⟨g, 0, none⟩) m cap L) (hn : 0 < n) : OwnV w g (recCells n enc L) ∧ m ≤ cap ∧ cap ≤ maxLen ∧ g < w.heap.size ∧ L.length = m := by
  have hl := h.len hn
  rcases h.parts hn with ⟨e, _⟩ | ⟨g', e, _, hlt, h1, h2, ho⟩
  · cases e
  · simp only [Option.some.injEq, Addr.mk.injEq, and_true] at e
    subst e
    exact ⟨ho, h1, h2, hlt, hl⟩
theorem PBk.mono {A' : Nat → Prop} (h : PBk A w g m cap f mf fcap E F) (hA : ∀ k, k < w.heap.size → A k → A' k) : PBk A' w g m cap f mf fcap E F :=
  ⟨h.row, hA _ (h.row.ownG (by omega)).2.2.2.1 h.top, h.hld.mono hA, h.frow, hA _ (h.frow.ownG (by omega)).2.2.2.1 h.ftop, h.fne, h.fap⟩
theorem PBk.ownB (h : PBk A w g m cap f mf fcap E F) : OwnB A w (.slice (some ⟨g, 0, none⟩) m cap) (.slice (some ⟨f, 0, none⟩) mf fcap) E F := by
  obtain ⟨o1, o2, o3, _, o5⟩ := h.row.ownG (by omega)
  obtain ⟨p1, p2, p3, _, p5⟩ := h.frow.ownG (by omega)
  subst o5
  subst p5
  rw [recI] at p1
  refine ⟨⟨_, cap, rfl, o2, o3, fun _ => ⟨g, rfl, h.top, o1, h.hld⟩⟩, _, fcap, rfl, p2, p3, fun _ => ⟨f, rfl, h.ftop, p1, h.fap, fun _ i cp e => ?_⟩⟩
  simp only [Value.slice.injEq, Option.some.injEq, Addr.mk.injEq] at e
  exact h.fne e.1.1.symm
theorem PBk.inn (h : PBk A w g m cap f mf fcap E F) : BkIn w (.slice (some ⟨g, 0, none⟩) m cap) (.slice (some ⟨f, 0, none⟩) mf fcap) (bills E, F) := h.ownB.inn
theorem PBk.lens (h : PBk A w g m cap f mf fcap E F) : E.length = m ∧ F.length = mf := ⟨(h.row.ownG (by omega)).2.2.2.2, (h.frow.ownG (by omega)).2.2.2.2⟩
end

theorem drop5 {cs : List Value} {k : Nat} {a b c d e : Value} (h0 : cs[k]? = some a) (h1 : cs[k + 1]? = some b) (h2 : cs[k + 2]? = some c) (h3 : cs[k + 3]? = some d) (h4 : cs[k + 4]? = some e) : cs.drop k = a :: b :: c :: d :: e :: cs.drop (k + 5) := by
  apply List.ext_getElem?
  intro i
  rw [List.getElem?_drop]
  match i with
  | 0 => simpa using h0
  | 1 => simpa using h1
  | 2 => simpa using h2
  | 3 => simpa using h3
  | 4 => simpa using h4
  | j + 5 =>
    simp only [List.getElem?_cons_succ, List.getElem?_drop]
    congr 1
    omega
theorem cells_next {cs : List Value} {E : List EBl} {x : BlT} {q : Option Addr × Nat} (gh : Nat) (hr : ∀ j, j < 5 → cs[E.length * 5 + j]? = some (rawB x q j)) :
    (recCells 5 eBl E ++ cs.drop (E.length * 5)).set (E.length * 5 + 4) (.slice (some ⟨gh, 0, none⟩) x.2.2.2.2.length x.2.2.2.2.length) = recCells 5 eBl (E ++ [(x, gh, x.2.2.2.2.length)]) ++ cs.drop ((E ++ [(x, gh, x.2.2.2.2.length)]).length * 5) := by
  have hd := drop5 (hr 0 (by omega)) (hr 1 (by omega)) (hr 2 (by omega)) (hr 3 (by omega)) (hr 4 (by omega))
  simp only [Nat.add_zero] at hd
  rw [List.set_append_right _ _ (by rw [recCells_length]; omega), recCells_length, show E.length * 5 + 4 - E.length * 5 = 4 by omega, hd, recCells_append 5 (by omega), recCells_one, List.append_assoc]
  congr 1
  rw [List.length_append, List.length_singleton, show (E.length + 1) * 5 = E.length * 5 + 5 by omega]
  rfl

/-- What is held while a book is copied: E has its holders already. -/
structure Ow (w wr : World) (g f gO : Nat) (cs : List Value) (n : Nat) (F : List Int) (E : List EBl) : Prop where
  below : Below w.heap.size w wr
  box : OwnV wr gO [.slice (some ⟨g, 0, none⟩) n n, .slice (some ⟨f, 0, none⟩) F.length F.length]
  res : OwnV wr (w.heap.size + 1) [.slice none 0 0, .slice none 0 0]
  bl : Blk wr g 40 (recCells 5 eBl E ++ cs.drop (E.length * 5))
  fr : Blk wr f 3 (ints F)
  hld : OwnH (fun k => w.heap.size + 1 < k ∧ k ≠ gO ∧ k ≠ f) wr g E
  ap : w.heap.size + 1 < gO ∧ w.heap.size + 1 < g ∧ w.heap.size + 1 < f ∧ gO ≠ g ∧ gO ≠ f ∧ f ≠ g
theorem Ow.step {w wr wq : World} {g f gO : Nat} {cs : List Value} {n : Nat} {F : List Int} {E : List EBl} (h : Ow w wr g f gO cs n F E) (hb : Below wr.heap.size wr wq) : Ow w wq g f gO cs n F E :=
  ⟨Below.step h.below hb, h.box.step hb, h.res.step hb, h.bl.step hb, h.fr.step hb, h.hld.step hb, h.ap⟩
theorem Ow.drew {w wr : World} {g f gO : Nat} {cs : List Value} {n : Nat} {F : List Int} {E : List EBl} (h : Ow w wr g f gO cs n F E) : Ow w wr.drew g f gO cs n F E :=
  ⟨h.below.drew, h.box.drew, h.res.drew, h.bl, h.fr, h.hld.step (Below.refl _ _).drew, h.ap⟩
theorem ow_mk {w wr : World} {g f gO : Nat} {cs : List Value} {n : Nat} {F : List Int} (h1 : Below w.heap.size w wr) (h2 : OwnV wr gO [.slice (some ⟨g, 0, none⟩) n n, .slice (some ⟨f, 0, none⟩) F.length F.length]) (h3 : OwnV wr (w.heap.size + 1) [.slice none 0 0, .slice none 0 0])
    (h4 : Blk wr g 40 cs) (h5 : Blk wr f 3 (ints F)) (h6 : w.heap.size + 1 < gO ∧ w.heap.size + 1 < g ∧ w.heap.size + 1 < f ∧ gO ≠ g ∧ gO ≠ f ∧ f ≠ g) : Ow w wr g f gO cs n F [] :=
  ⟨h1, h2, h3, by simpa [recCells] using h4, h5, ⟨fun x hx => by simp at hx, by simp⟩, h6⟩
theorem Ow.next {w wr : World} {g f gO : Nat} {cs : List Value} {n : Nat} {F : List Int} {E : List EBl} (h : Ow w wr g f gO cs n F E) {x : BlT} {q : Option Addr × Nat} {gh : Nat} (hr : ∀ j, j < 5 → cs[E.length * 5 + j]? = some (rawB x q j))
    (ho : OwnV wr gh (strs x.2.2.2.2)) (h1 : w.heap.size + 1 < gh) (h2 : gh ≠ gO ∧ gh ≠ f ∧ gh ≠ g) (h3 : ∀ y ∈ E, y.2.1 ≠ gh) (hl : x.2.2.2.2.length ≤ 1048576) :
    Ow w (wr.setCell ⟨g, E.length * 5 + 4, none⟩ (.slice (some ⟨gh, 0, none⟩) x.2.2.2.2.length x.2.2.2.2.length)) g f gO cs n F (E ++ [(x, gh, x.2.2.2.2.length)]) := by
  obtain ⟨a1, a2, a3, a4, a5, a6⟩ := h.ap
  refine ⟨h.below.setCell (p := ⟨g, E.length * 5 + 4, none⟩) (by show w.heap.size ≤ g; omega) _, farN h.box a4 _ _, farN h.res (by omega) _ _, ?_, h.fr.far a6, ⟨fun y hy => ?_, ?_⟩, h.ap⟩
  · have := h.bl.set (E.length * 5 + 4) (.slice (some ⟨gh, 0, none⟩) x.2.2.2.2.length x.2.2.2.2.length)
    rwa [cells_next gh hr] at this
  · rcases List.mem_append.1 hy with hy | hy
    · obtain ⟨q1, q2, q3, q4⟩ := h.hld.own y hy
      exact ⟨farN q1 q3 _ _, q2, q3, q4⟩
    · rw [List.mem_singleton.1 hy]
      exact ⟨farN ho h2.2.2 _ _, ⟨h1, h2.1, h2.2.1⟩, h2.2.2, Nat.le_refl _, by show x.2.2.2.2.length ≤ maxLen; unfold maxLen; omega⟩
  · rw [List.map_append, List.nodup_append]
    refine ⟨h.hld.apart, by simp, fun a ha b hb e => ?_⟩
    obtain ⟨y, hy, rfl⟩ := List.mem_map.1 ha
    simp only [List.map_cons, List.map_nil, List.mem_singleton] at hb
    exact h3 y hy (e.trans hb)

set_option maxRecDepth 10000 in
set_option maxHeartbeats 6400000 in
theorem ownBook_any (bv fv : Value) (b : BkT) (w : World) (h : BkIn w bv fv b) (hbd : Bd b) :
    Calls Try.prog 35 #[vBook bv fv] w fun e w' => ∃ g f E, e = .returned (vBook (.slice (some ⟨g, 0, none⟩) b.1.length b.1.length) (.slice (some ⟨f, 0, none⟩) b.2.length b.2.length)) ∧ bills E = b.1 ∧ PBk (fun k => w.heap.size ≤ k) w' g b.1.length b.1.length f b.2.length b.2.length E b.2 ∧ Below w.heap.size w w' := by
  obtain ⟨L, F⟩ := b
  obtain ⟨h, hF⟩ := h
  have h' := h
  have hF' := hF
  obtain ⟨ao, cap, rfl, -⟩ := h'
  obtain ⟨fo, fcap, rfl, -⟩ := hF'
  dsimp only at h hF ⊢
  obtain ⟨hn, hnf, -⟩ := id hbd
  dsimp only at hn hnf
  obtain ⟨cs, hcl, hc1, hsrc, hraw⟩ := bls_src h
  have HRAW := hide hraw
  have HHL : Hid (∀ r, r < L.length → (L.getD r default).2.2.2.2.length ≤ 1048576) := fun r hr => hbd.held hr
  have Q1 := hide fun V (hV : Below w.heap.size w V) => ownCopyBill_blk ao L.length cap cs V hcl hc1 (fun hp => by
    obtain ⟨ad, e, hx⟩ := hsrc hp
    exact ⟨ad, e, fun j v hj => (hV.cell (lt_of_cell (hx j v hj))).trans (hx j v hj)⟩) hn
  have Q2 := hide fun V (hV : Below w.heap.size w V) => ownCopyI_blk fo F.length fcap (ints F) V (by rw [ints_length, Nat.mul_one]) (ints_one F) (ints_src (hF.below hV)) hnf
  obtain ⟨V1, eV1⟩ : ∃ V, V = (w.alloc (.cells #[.slice ao L.length cap, .slice fo F.length fcap] 27)).alloc (.cells #[.slice none 0 0, .slice none 0 0] 27) := ⟨_, rfl⟩
  have HW : Hid (Below w.heap.size w V1) := by show Below _ _ _; rw [eV1]; exact Below.step (Below.alloc1 _ _) (Below.alloc1 _ _)
  have HA : Hid (OwnV V1 w.heap.size [.slice ao L.length cap, .slice fo F.length fcap]) := by show OwnV _ _ _; rw [eV1]; exact (ownV_alloc w #[.slice ao L.length cap, .slice fo F.length fcap] 27).alloc _
  have HR : Hid (OwnV V1 (w.heap.size + 1) [.slice none 0 0, .slice none 0 0]) := by
    have := ownV_alloc (w.alloc (.cells #[.slice ao L.length cap, .slice fo F.length fcap] 27)) #[.slice none 0 0, .slice none 0 0] 27
    rw [World.size_alloc] at this
    show OwnV _ _ _
    rw [eV1]; exact this
  have HCL := hide hcl
  clear h hF hbd hraw hsrc hc1 hcl
  unfold vBook
  go_enter Try.func35, Try.ntmps35
  go_upto_region 1 with (fail)
  rw [← eV1]
  clear eV1
  have a0 := (unhide HA).cell (i := 0) rfl
  have a1 := (unhide HA).cell (i := 1) rfl
  have hR1 := (unhide HR).lt
  go_cut [3] (fun s3 wx => ∃ g f gO : Nat, s3 = .pointer (some ⟨gO, 0, none⟩) ∧ Hid (Ow w wx g f gO cs L.length F []))
  case first =>
    go_region_held3 (fun w' => w'.cell? ⟨w.heap.size, 0, none⟩ = some (.slice ao L.length cap) ∧ w'.cell? ⟨w.heap.size, 1, none⟩ = some (.slice fo F.length fcap)) (go_keep) (first
      | (go_at_call 66; refine (unhide Q1 _ (by first | exact unhide HW | exact (unhide HW).drew | exact Below.step (unhide HW) (Below.alloc1 _ _) | exact (Below.step (unhide HW) (Below.alloc1 _ _)).drew)).mono ?_; rintro e wa ⟨g, rfl, hg, hB1, hb⟩; (first | (have hwg := Nat.lt_of_lt_of_le hR1 hg) | (have hwg := Nat.lt_of_lt_of_le hR1 (Nat.le_trans (Below.alloc1 _ _).size hg))); (first | (have HW' := hide (Below.step (unhide HW) hb); have HA' := hide ((unhide HA).step hb); have HR' := hide ((unhide HR).step hb)) | (have HW' := hide (Below.step (unhide HW) (below_undrewA hb)); have HA' := hide ((unhide HA).step (below_undrewA hb)); have HR' := hide ((unhide HR).step (below_undrewA hb))) | (have HW' := hide (Below.step (unhide HW) (Below.step (Below.alloc1 _ _) hb)); have HA' := hide ((unhide HA).step (Below.step (Below.alloc1 _ _) hb)); have HR' := hide ((unhide HR).step (Below.step (Below.alloc1 _ _) hb)); have HNW := hide (OwnV.step (ownV_alloc _ _ _) hb); have hNg := Nat.lt_of_lt_of_le (OwnV.lt (ownV_alloc _ _ _)) hg) | (have HW' := hide (Below.step (unhide HW) (Below.step (Below.alloc1 _ _) (below_undrewA hb))); have HA' := hide ((unhide HA).step (Below.step (Below.alloc1 _ _) (below_undrewA hb))); have HR' := hide ((unhide HR).step (Below.step (Below.alloc1 _ _) (below_undrewA hb))); have HNW := hide (OwnV.step (OwnV.drew (ownV_alloc _ _ _)) hb); have hNg := Nat.lt_of_lt_of_le (OwnV.lt (OwnV.drew (ownV_alloc _ _ _))) hg)); replace HW := HW'; clear HW'; replace HA := HA'; clear HA'; replace HR := HR'; clear HR'; (try replace HNW := hide (OwnV.step (unhide HNW) hb)); (try replace HNW := hide (OwnV.step (unhide HNW) (below_undrewA hb))); have HB1 := hide hB1; have hlg := hB1.lt; have hRa := (unhide HR).lt; have zz1 : ¬ wa.heap.size = w.heap.size := (by omega); have zz2 : ¬ w.heap.size = wa.heap.size := (by omega); have zz3 : ¬ V1.heap.size = w.heap.size := (by omega); have zz4 : ¬ w.heap.size = V1.heap.size := (by omega); have t0 := (unhide HA).cell (i := 0) rfl; have t1 := (unhide HA).cell (i := 1) rfl; clear hb hB1)
      | (go_at_call 67; refine (unhide Q2 _ (by first | exact unhide HW | exact (unhide HW).drew | exact Below.step (unhide HW) (Below.alloc1 _ _) | exact (Below.step (unhide HW) (Below.alloc1 _ _)).drew)).mono ?_; rintro e wb ⟨f, rfl, hf, hB2, hb⟩; (first | (have hgf := Nat.lt_of_lt_of_le hlg hf) | (have hgf := Nat.lt_of_lt_of_le hlg (Nat.le_trans (Below.alloc1 _ _).size hf))); (first | (have HW' := hide (Below.step (unhide HW) hb); have HA' := hide ((unhide HA).step hb); have HR' := hide ((unhide HR).step hb); have HB1' := hide ((unhide HB1).step hb)) | (have HW' := hide (Below.step (unhide HW) (below_undrewA hb)); have HA' := hide ((unhide HA).step (below_undrewA hb)); have HR' := hide ((unhide HR).step (below_undrewA hb)); have HB1' := hide ((unhide HB1).step (below_undrewA hb))) | (have HW' := hide (Below.step (unhide HW) (Below.step (Below.alloc1 _ _) hb)); have HA' := hide ((unhide HA).step (Below.step (Below.alloc1 _ _) hb)); have HR' := hide ((unhide HR).step (Below.step (Below.alloc1 _ _) hb)); have HB1' := hide ((unhide HB1).step (Below.step (Below.alloc1 _ _) hb)); have HNW := hide (OwnV.step (ownV_alloc _ _ _) hb); have hNf := Nat.lt_of_lt_of_le (OwnV.lt (ownV_alloc _ _ _)) hf) | (have HW' := hide (Below.step (unhide HW) (Below.step (Below.alloc1 _ _) (below_undrewA hb))); have HA' := hide ((unhide HA).step (Below.step (Below.alloc1 _ _) (below_undrewA hb))); have HR' := hide ((unhide HR).step (Below.step (Below.alloc1 _ _) (below_undrewA hb))); have HB1' := hide ((unhide HB1).step (Below.step (Below.alloc1 _ _) (below_undrewA hb))); have HNW := hide (OwnV.step (OwnV.drew (ownV_alloc _ _ _)) hb); have hNf := Nat.lt_of_lt_of_le (OwnV.lt (OwnV.drew (ownV_alloc _ _ _))) hf)); replace HW := HW'; clear HW'; replace HA := HA'; clear HA'; replace HR := HR'; clear HR'; replace HB1 := HB1'; clear HB1'; (try replace HNW := hide (OwnV.step (unhide HNW) hb)); (try replace HNW := hide (OwnV.step (unhide HNW) (below_undrewA hb))); have HB2 := hide hB2; have t0 := (unhide HA).cell (i := 0) rfl; have t1 := (unhide HA).cell (i := 1) rfl; (try (have n0 := (unhide HNW).cell (i := 0) rfl; have n1 := (unhide HNW).cell (i := 1) rfl; have nf := (unhide HNW).frozen)); clear hb hB2))
    all_goals
      go_wp2_with fail
      go_meet
      first
        | exact ⟨g, f, _, rfl, hide (ow_mk (Below.step (unhide HW) (Below.alloc1 _ _)) (ownV_alloc _ #[.slice (some ⟨g, 0, none⟩) L.length L.length, .slice (some ⟨f, 0, none⟩) F.length F.length] _) ((unhide HR).step (Below.alloc1 _ _)) ((unhide HB1).step (Below.alloc1 _ _)) ((unhide HB2).step (Below.alloc1 _ _)) (by have z1 := (unhide HR).lt; have z2 := (unhide HB1).lt; have z3 := (unhide HB2).lt; omega))⟩
        | exact ⟨g, f, _, rfl, hide (Ow.drew (ow_mk (Below.step (unhide HW) (Below.alloc1 _ _)) (ownV_alloc _ #[.slice (some ⟨g, 0, none⟩) L.length L.length, .slice (some ⟨f, 0, none⟩) F.length F.length] _) ((unhide HR).step (Below.alloc1 _ _)) ((unhide HB1).step (Below.alloc1 _ _)) ((unhide HB2).step (Below.alloc1 _ _)) (by have z1 := (unhide HR).lt; have z2 := (unhide HB1).lt; have z3 := (unhide HB2).lt; omega)))⟩
        | exact ⟨g, f, _, rfl, hide (ow_mk (((unhide HW).setCell (p := ⟨V1.heap.size, 0, none⟩) (by show w.heap.size ≤ V1.heap.size; omega) _).setCell (p := ⟨V1.heap.size, 1, none⟩) (by show w.heap.size ≤ V1.heap.size; omega) _) (((unhide HNW).set 0 _ (by simp)).set 1 _ (by simp)) (farN (farN (unhide HR) (by omega) _ _) (by omega) _ _) (((unhide HB1).far (by omega)).far (by omega)) (((unhide HB2).far (by omega)).far (by omega)) (by omega))⟩
        | exact ⟨g, f, _, rfl, hide (Ow.drew (ow_mk (((unhide HW).setCell (p := ⟨V1.heap.size, 0, none⟩) (by show w.heap.size ≤ V1.heap.size; omega) _).setCell (p := ⟨V1.heap.size, 1, none⟩) (by show w.heap.size ≤ V1.heap.size; omega) _) (((unhide HNW).set 0 _ (by simp)).set 1 _ (by simp)) (farN (farN (unhide HR) (by omega) _ _) (by omega) _ _) (((unhide HB1).far (by omega)).far (by omega)) (((unhide HB2).far (by omega)).far (by omega)) (by omega)))⟩
        | exact ⟨g, f, _, rfl, hide (ow_mk (((unhide HW).setCell (p := ⟨wa.heap.size, 0, none⟩) (by show w.heap.size ≤ wa.heap.size; omega) _).setCell (p := ⟨wa.heap.size, 1, none⟩) (by show w.heap.size ≤ wa.heap.size; omega) _) (((unhide HNW).set 0 _ (by simp)).set 1 _ (by simp)) (farN (farN (unhide HR) (by omega) _ _) (by omega) _ _) (((unhide HB1).far (by omega)).far (by omega)) (((unhide HB2).far (by omega)).far (by omega)) (by omega))⟩
        | exact ⟨g, f, _, rfl, hide (Ow.drew (ow_mk (((unhide HW).setCell (p := ⟨wa.heap.size, 0, none⟩) (by show w.heap.size ≤ wa.heap.size; omega) _).setCell (p := ⟨wa.heap.size, 1, none⟩) (by show w.heap.size ≤ wa.heap.size; omega) _) (((unhide HNW).set 0 _ (by simp)).set 1 _ (by simp)) (farN (farN (unhide HR) (by omega) _ _) (by omega) _ _) (((unhide HB1).far (by omega)).far (by omega)) (((unhide HB2).far (by omega)).far (by omega)) (by omega)))⟩
  case rest =>
    clear Q1 Q2 HW HA HR a0 a1 hR1
    obtain ⟨g, f, gO, rfl, HS⟩ := hcut
    have hap := (unhide HS).ap
    obtain ⟨p1, p2, p3, p4, p5, p6⟩ := hap
    have b0 := (unhide HS).box.cell (i := 0) rfl
    go_wp2
    generalize wc = wq at *
    go_loopg [16] L.length (fun gg iv wr => ∃ (k : Nat) (E : List EBl), k ≤ L.length ∧ gg = L.length - k ∧ iv = .int .i64 k ∧ Hid (E.length = k) ∧ Hid (bills E = L.take E.length) ∧ Hid (Ow w wr g f gO cs L.length F E))
    case atStart => exact ⟨0, [], Nat.zero_le _, rfl, rfl, rfl, (rfl : _ = _), HS⟩
    case round =>
      clear HS b0
      obtain ⟨k, E, hk, rfl, rfl, EK, EB, HS⟩ := hrel
      by_cases hkn : k < L.length
      · have hki : (k : Int) < L.length := by omega
        obtain ⟨q, hq, hSI⟩ := unhide HRAW k hkn
        have hhl := unhide HHL k hkn
        obtain ⟨x, ex⟩ : ∃ x, x = L.getD k default := ⟨_, rfl⟩
        rw [← ex] at hq hSI hhl
        have HEX := hide ex
        clear ex
        have hvs : ∀ j, j < 5 → (recCells 5 eBl E ++ cs.drop (E.length * 5))[k * 5 + j]? = some (rawB x q j) := fun j hj => by
          rw [List.getElem?_append_right (by rw [recCells_length, unhide EK]; omega), recCells_length, List.getElem?_drop, ← hq j hj]
          congr 1
          rw [unhide EK]; omega
        have hO := (unhide HS).bl.own
        obtain ⟨⟨xi, sh, od, mn, H⟩⟩ : Nonempty BlT := ⟨x⟩
        obtain ⟨xi, sh, od, mn, H⟩ := x
        obtain ⟨na, nc⟩ := q
        have c0 : wr.cell? ⟨g, k * 5, none⟩ = some (.int .i64 xi) := hO.cell (hvs 0 (by omega))
        have c1 : wr.cell? ⟨g, k * 5 + 1, none⟩ = some (.string sh) := hO.cell (hvs 1 (by omega))
        have c2 : wr.cell? ⟨g, k * 5 + 2, none⟩ = some (.string od) := hO.cell (hvs 2 (by omega))
        have c3 : wr.cell? ⟨g, k * 5 + 3, none⟩ = some (.int .i64 mn) := hO.cell (hvs 3 (by omega))
        have c4 : wr.cell? ⟨g, k * 5 + 4, none⟩ = some (.slice na H.length nc) := hO.cell (hvs 4 (by omega))
        dsimp only at hSI hhl
        have A := Below.alloc1 wr (.cells #[.int .i64 xi, .string sh, .string od, .int .i64 mn, .slice na H.length nc] 40)
        have HS1 := hide ((unhide HS).step A)
        have HX := hide (ownV_alloc wr #[.int .i64 xi, .string sh, .string od, .int .i64 mn, .slice na H.length nc] 40)
        have Q3 := hide fun V (hV : Below w.heap.size w V) => ownCopyS_blk na H.length nc (strs H) V (by simp) (strs_one H) (strs_src (hSI.below hV)) hhl
        have HQQ : Hid (∀ j, j < 5 → cs[E.length * 5 + j]? = some (rawB (xi, sh, od, mn, H) (na, nc) j)) := fun j hj => by rw [unhide EK]; exact hq j hj
        have HGX := hide hO.lt
        clear hvs hq hO hSI A
        go_upto_region 5 with (fail)
        obtain ⟨V5, eV5⟩ : ∃ z, z = wr.alloc (.cells #[.int .i64 xi, .string sh, .string od, .int .i64 mn, .slice na H.length nc] 40) := ⟨_, rfl⟩
        rw [← eV5] at HS1 HX ⊢
        obtain ⟨gx, egx⟩ : ∃ z, z = wr.heap.size := ⟨_, rfl⟩
        have hgx1 : gx ≠ g := by have := unhide HGX; omega
        rw [← egx] at HX ⊢
        clear eV5 egx c0 c1 c2 c3 c4 HS HGX
        have b0 := (unhide HS1).box.cell (i := 0) rfl
        have x4 := (unhide HX).cell (i := 4) rfl
        have HEl : Hid (∀ y ∈ E, y.2.1 < V5.heap.size) := fun y hy => ((unhide HS1).hld.own y hy).1.lt
        have hl1 := (unhide HS1).box.lt
        have hl2 := (unhide HS1).bl.lt
        have hl3 := (unhide HS1).fr.lt
        have hl4 := (unhide HX).lt
        have HRES := hide (unhide HS1).res.lt
        go_region_held3 (fun w' => w'.cell? ⟨gO, 0, none⟩ = some (.slice (some ⟨g, 0, none⟩) L.length L.length) ∧ w'.cell? ⟨gx, 4, none⟩ = some (.slice na H.length nc)) (go_keep) (first
          | (go_at_call 68; refine (unhide Q3 _ (by first | exact (unhide HS1).below | exact (unhide HS1).below.drew)).mono ?_; rintro e wa ⟨gh, rfl, hgh, hBh, hb⟩; have hgh' : V5.heap.size ≤ gh := hgh; (first | (have HS1' := hide ((unhide HS1).step hb); have HX' := hide ((unhide HX).step hb)) | (have HS1' := hide ((unhide HS1).step (below_undrewA hb)); have HX' := hide ((unhide HX).step (below_undrewA hb)))); replace HS1 := HS1'; replace HX := HX'; clear HS1' HX'; have HBh := hide hBh.own; have t0 := (unhide HS1).box.cell (i := 0) rfl; have t1 := (unhide HX).cell (i := 4) rfl; have tg := (unhide HS1).bl.own.frozen; obtain ⟨u4, hu4⟩ : ∃ u, wa.cell? ⟨g, k * 5 + 4, none⟩ = some u := ⟨_, (unhide HS1).bl.own.cell (List.getElem?_eq_getElem (show k * 5 + 4 < _ by rw [List.length_append, recCells_length, List.length_drop, unhide HCL, unhide EK]; omega))⟩; have hne1 : ¬ g = gO := (fun e => p4 e.symm); have hne2 : ¬ g = gx := (fun e => hgx1 e.symm); clear hb hBh hgh))
        all_goals
          have HN := hide ((unhide HS1).next (unhide HQQ) (unhide HBh) (by have := unhide HRES; omega) ⟨by omega, by omega, by omega⟩ (fun y hy => by have := unhide HEl y hy; omega) hhl)
          rw [unhide EK] at HN
          have HB2 := hide (take_snoc (x := ((xi, sh, od, mn, H), gh, H.length)) (unhide EB) (by rw [unhide EK]; exact hkn) (by rw [unhide EK]; exact (unhide HEX).symm))
          go_wp2
          go_roundg (L.length - (k + 1))
          case measure => omega
          case rel => first | exact ⟨k + 1, _, by omega, rfl, by go_num, (by show (E ++ [_]).length = _; rw [List.length_append, unhide EK]; rfl), HB2, HN⟩ | exact ⟨k + 1, _, by omega, rfl, by go_num, (by show (E ++ [_]).length = _; rw [List.length_append, unhide EK]; rfl), HB2, (unhide HN).drew⟩
      · have hkk : k = L.length := by omega
        have h9 := unhide HS
        have he := unhide EB
        rw [unhide EK, hkk, List.take_length] at he
        have b0 := h9.box.cell (i := 0) rfl
        have b1 := h9.box.cell (i := 1) rfl
        have r0 := h9.res.cell (i := 0) rfl
        have r1 := h9.res.cell (i := 1) rfl
        have rf := h9.res.frozen
        have hEl : E.length = L.length := by rw [unhide EK]; exact hkk
        have HR2 := hide ((h9.res.set 0 (.slice (some ⟨g, 0, none⟩) L.length L.length) (by simp)).set 1 (.slice (some ⟨f, 0, none⟩) F.length F.length) (by simp))
        have HP : Hid (PBk (fun k => w.heap.size ≤ k) ((wr.setCell ⟨w.heap.size + 1, 0, none⟩ (.slice (some ⟨g, 0, none⟩) L.length L.length)).setCell ⟨w.heap.size + 1, 1, none⟩ (.slice (some ⟨f, 0, none⟩) F.length F.length)) g L.length L.length f F.length F.length E F) := by
          have hbl := h9.bl
          rw [show cs.drop (E.length * 5) = [] from List.drop_eq_nil_of_le (by rw [unhide HCL, hEl]; exact Nat.le_refl _), List.append_nil] at hbl
          have hrow := ((hbl.far (g' := w.heap.size + 1) (i := 0) (v := .slice (some ⟨g, 0, none⟩) L.length L.length) (by omega)).far (g' := w.heap.size + 1) (i := 1) (v := .slice (some ⟨f, 0, none⟩) F.length F.length) (by omega)).row (by rw [hEl]; exact hn)
          rw [hEl] at hrow
          have hfr := h9.fr
          rw [← recI] at hfr
          have hfrow := ((hfr.far (g' := w.heap.size + 1) (i := 0) (v := .slice (some ⟨g, 0, none⟩) L.length L.length) (by omega)).far (g' := w.heap.size + 1) (i := 1) (v := .slice (some ⟨f, 0, none⟩) F.length F.length) (by omega)).row hnf
          refine ⟨hrow, by omega, ⟨fun y hy => ?_, h9.hld.apart⟩, hfrow, by omega, p6, fun y hy => ((h9.hld.own y hy).2.1).2.2⟩
          obtain ⟨z1, z2, z3, z4⟩ := h9.hld.own y hy
          exact ⟨farN (farN z1 (by omega) _ _) (by omega) _ _, by omega, z3, z4⟩
        have HBW := hide ((h9.below.setCell (p := ⟨w.heap.size + 1, 0, none⟩) (by show w.heap.size ≤ w.heap.size + 1; omega) (.slice (some ⟨g, 0, none⟩) L.length L.length)).setCell (p := ⟨w.heap.size + 1, 1, none⟩) (by show w.heap.size ≤ w.heap.size + 1; omega) (.slice (some ⟨f, 0, none⟩) F.length F.length))
        have HHE := hide he
        clear h9 HS he hEl hkk
        have hq1 : ¬ gO = w.heap.size + 1 := by omega
        go_wp2
        have k0 := (unhide HR2).cell (i := 0) rfl
        have k1 := (unhide HR2).cell (i := 1) rfl
        refine bodyPost_ret (v := vBook (.slice (some ⟨g, 0, none⟩) L.length L.length) (.slice (some ⟨f, 0, none⟩) F.length F.length)) (by simp [results, Try.results35, go_sem, vBook, k0, k1]) rfl ⟨g, f, E, rfl, unhide HHE, unhide HP, unhide HBW⟩

end Go.Proofs.Ytdcbonfhakdhhaa
