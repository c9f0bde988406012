/- Bills: a book of the specification's own; the contract of l14Copy. -/
import Derived.Test.YtdcbonfhakdhhaaBlR
import Derived.Test.YtdcbonfhakdhhaaBlK
import Derived.Test.YtdcbonfhakdhhaaBlN
namespace Go.Proofs.Ytdcbonfhakdhhaa
open Go.RowKit

/-- Any number of records more behind a row that is there. -/
theorem wpList_appTo {α : Type} [Inhabited α] {n : Nat} {enc : α → Nat → Value} {St T : TypeId} (hty : RecTy St T n enc) (w : World) {ops : Array Oper} {rest : List Oper} {o : Oper} {a : Act} {Q : Exit → Act → World → Prop} (hgd : o.guard = none) (s x : Operand)
    (ho : o.op = .call { callee := .builtin .append, args := #[s, x], argTypes := #[St, St] })
    (B g m cap : Nat) (L : List α) (hs : a.eval s = .slice (some ⟨g, 0, none⟩) m cap) (h : RowB T n enc B w (some ⟨g, 0, none⟩) m cap L) (hB : B ≤ w.heap.size) (hm : m ≤ 1048576) (xo : Option Addr) (k c : Nat) (M : List α) (hx : a.eval x = .slice xo k c) (hX : RecsIn n enc w (.slice xo k c) M) (hk : k ≤ 1048576)
    (hK : ∀ g' cap' w', RowB T n enc B w' (some ⟨g', 0, none⟩) (m + k) cap' (L ++ M) → Kept (fun b => b = g) w w' → (g' = g ∨ g' = w.heap.size) → wpList Try.prog ops Q rest (a.put o.dst (.slice (some ⟨g', 0, none⟩) (m + k) cap')) w') : wpList Try.prog ops Q (o :: rest) a w := by
  obtain ⟨i0, z, bytes, hinf, hz0, hz1, hz2, hz3, hby⟩ := hty.inf
  have hbb : (m + k) * bytes ≤ 140737488355328 := by
    have : (m + k) * bytes ≤ 2097152 * 1000 := Nat.mul_le_mul (by omega) hby
    omega
  have hkl : M.length = k := by
    obtain ⟨_, _, e, _⟩ := hX
    simp only [Value.slice.injEq] at e
    exact e.2.1.symm
  by_cases hk0 : k = 0
  · subst hk0
    have hM : M = [] := List.length_eq_zero_iff.1 hkl
    subst hM
    rw [List.append_nil] at hK
    rcases h.parts hty.pos with ⟨e, _⟩ | ⟨g, e, _, _, hc, hcm, _⟩
    · cases e
    · simp only [Option.some.injEq, Addr.mk.injEq, and_true] at e
      subst e
      refine wpList_plain hgd fun K hK' => ?_
      have hrun := run_append_zer (P := Try.prog) w St o.type T i0 hty.und hinf ⟨g, 0, none⟩ m cap c xo hc
      unfold Oper.wp
      simp [execOp, ho, resolve, invoke, builtin, hs, hx, hrun, Result.andThen]
      exact hK' _ _ (hK _ cap w h (Kept.refl _ _) (Or.inl rfl))
  · obtain ⟨ad, rfl, hsrc⟩ := recs_src hX (by omega)
    refine wpList_append_lies w hgd s x St ho B T i0 z n bytes hty.und hinf hz0 hz1 hz2 hz3 hty.pos _ m (recCells n enc L) hs h ad k c (recCells n enc M) hx (by rw [recCells_length, hkl]) hsrc (hty.cells M) (by omega) (by unfold maxLen; omega) hbb hB _ rfl ?_
    intro g' cap' w' h2 h3 h4 _
    have hob : ∀ k, (Value.slice (some ⟨g, 0, none⟩) m cap).ownBlock = some k → k = g := fun k hk => by
      simp [Value.ownBlock] at hk; rw [hk]
    refine hK _ cap' w' ?_ ⟨h3.os, h3.tape, h3.output, h3.size, fun k hk hn => h3.block k hk (fun e => hn (hob k e.symm))⟩ (h4.imp (hob g') id)
    unfold RowB
    rw [recCells_append n hty.pos]
    exact h2

/-- A book of the specification's own; its list of bills may be nil. -/
structure SBk (A : Nat → Prop) (w : World) (ba : Option Addr) (m cap f mf fcap : Nat) (E : List EBl) (F : List Int) : Prop where
  row : RowB 40 5 eBl 0 w ba m cap E
  top : ∀ g, ba = some ⟨g, 0, none⟩ → A g ∧ g < w.heap.size ∧ f ≠ g ∧ ∀ x ∈ E, x.2.1 ≠ g
  hld : ∀ x ∈ E, OwnV w x.2.1 (strs x.1.2.2.2.2) ∧ A x.2.1 ∧ x.1.2.2.2.2.length ≤ x.2.2 ∧ x.2.2 ≤ maxLen
  apart : (E.map (·.2.1)).Nodup
  frow : RowB 3 1 eI 0 w (some ⟨f, 0, none⟩) mf fcap F
  ftop : A f
  fap : ∀ x ∈ E, x.2.1 ≠ f
section
variable {A A' : Nat → Prop} {w w' : World} {ba : Option Addr} {m cap f mf fcap : Nat} {E : List EBl} {F : List Int}
theorem SBk.kept {T : Nat → Prop} (h : SBk A w ba m cap f mf fcap E F) (hk : Kept T w w') (hT : ∀ k, k < w.heap.size → A k → ¬ T k) : SBk A w' ba m cap f mf fcap E F :=
  ⟨h.row.kept hk (fun g e _ hl => hT _ hl (h.top g e).1), fun g e => ⟨(h.top g e).1, Nat.lt_of_lt_of_le (h.top g e).2.1 hk.size, (h.top g e).2.2⟩, fun x hx => ⟨(h.hld x hx).1.kept hk (hT _ (h.hld x hx).1.lt (h.hld x hx).2.1), (h.hld x hx).2⟩, h.apart,
    h.frow.kept hk (fun g e _ hl => by simp only [Option.some.injEq, Addr.mk.injEq, and_true] at e; subst e; exact hT _ hl h.ftop), h.ftop, h.fap⟩
theorem SBk.step (h : SBk A w ba m cap f mf fcap E F) (hb : Below w.heap.size w w') : SBk A w' ba m cap f mf fcap E F := h.kept (T := fun _ => False) (kept_of_below hb) (fun _ _ _ h => h)
theorem SBk.far {b i : Nat} {u : Value} (h : SBk A w ba m cap f mf fcap E F) (hb : ¬ A b) : SBk A (w.setCell ⟨b, i, none⟩ u) ba m cap f mf fcap E F :=
  h.kept (T := fun k => k = b) (Kept.setCell (T := fun k => k = b) (Kept.refl _ w) (p := ⟨b, i, none⟩) rfl u) (fun _ _ hk e => hb (e ▸ hk))
theorem SBk.mono (h : SBk A w ba m cap f mf fcap E F) (hA : ∀ k, k < w.heap.size → A k → A' k) : SBk A' w ba m cap f mf fcap E F :=
  ⟨h.row, fun g e => ⟨hA _ (h.top g e).2.1 (h.top g e).1, (h.top g e).2⟩, fun x hx => ⟨(h.hld x hx).1, hA _ (h.hld x hx).1.lt (h.hld x hx).2.1, (h.hld x hx).2.2⟩, h.apart, h.frow, hA _ (h.frow.ownG (by omega)).2.2.2.1 h.ftop, h.fap⟩
theorem SBk.lens (h : SBk A w ba m cap f mf fcap E F) : E.length = m ∧ F.length = mf := ⟨h.row.len (by omega), h.frow.len (by omega)⟩
theorem SBk.inn (h : SBk A w ba m cap f mf fcap E F) : BkIn w (.slice ba m cap) (.slice (some ⟨f, 0, none⟩) mf fcap) (bills E, F) := by
  obtain ⟨p1, p2, p3, _, p5⟩ := h.frow.ownG (by omega)
  refine ⟨?_, ?_⟩
  · have hl := h.row.len (by omega)
    rcases h.row.parts (by omega) with ⟨rfl, rfl, rfl, rfl⟩ | ⟨g, rfl, _, _, h1, h2, h3⟩
    · exact blsIn_nil
    · have hO : OwnH A w g E := ⟨fun x hx => ⟨(h.hld x hx).1, (h.hld x hx).2.1, (h.top g rfl).2.2.2 x hx, (h.hld x hx).2.2⟩, h.apart⟩
      have := hO.in' h3 (by omega) h2
      rwa [hl] at this
  · subst p5
    rw [recI] at p1
    exact p1.intsIn p2 p3
theorem SBk.pbk (h : SBk A w ba m cap f mf fcap E F) (he : E ≠ []) : ∃ g, ba = some ⟨g, 0, none⟩ ∧ PBk A w g m cap f mf fcap E F := by
  rcases h.row.parts (by omega) with ⟨_, _, _, e⟩ | ⟨g, rfl, _, _, h1, h2, h3⟩
  · exact absurd e he
  · obtain ⟨t1, t2, t3, t4⟩ := h.top g rfl
    exact ⟨g, rfl, h.row, t1, ⟨fun x hx => ⟨(h.hld x hx).1, (h.hld x hx).2.1, t4 x hx, (h.hld x hx).2.2⟩, h.apart⟩, h.frow, h.ftop, t3, h.fap⟩
/-- A bill more. -/
theorem SBk.snoc {W g' cap' : Nat} {w1 : World} {x : EBl} (h : SBk A w ba m cap f mf fcap E F) (hb : Below w.heap.size w w1) (hW : W = w1.heap.size) (hx : OwnV w1 x.2.1 (strs x.1.2.2.2.2)) (hxl : x.1.2.2.2.2.length ≤ x.2.2) (hxm : x.2.2 ≤ maxLen) (hxn : w.heap.size ≤ x.2.1) (hA : ∀ k, w.heap.size ≤ k → A k)
    (hr : RowB 40 5 eBl 0 w' (some ⟨g', 0, none⟩) (m + 1) cap' (E ++ [x])) (hk : Kept (fun k => ba = some ⟨k, 0, none⟩) w1 w') (hor : ba = some ⟨g', 0, none⟩ ∨ g' = W) : SBk A w' (some ⟨g', 0, none⟩) (m + 1) cap' f mf fcap (E ++ [x]) F := by
  subst hW
  have hbs := hb.size
  obtain ⟨_, _, _, hg', _⟩ := hr.ownG (by omega)
  have hfl := (h.frow.ownG (by omega)).2.2.2.1
  have hEl : ∀ y ∈ E, y.2.1 < w.heap.size := fun y hy => (h.hld y hy).1.lt
  refine ⟨hr, fun g e => ?_, fun y hy => ?_, ?_, ?_, h.ftop, fun y hy => ?_⟩
  · simp only [Option.some.injEq, Addr.mk.injEq, and_true] at e
    subst e
    rcases hor with e | e
    · obtain ⟨t1, t2, t3, t4⟩ := h.top _ e
      refine ⟨t1, hg', t3, fun y hy => ?_⟩
      rcases List.mem_append.1 hy with hy | hy
      · exact t4 y hy
      · rw [List.mem_singleton.1 hy]; omega
    · refine ⟨hA _ (by omega), hg', by omega, fun y hy => ?_⟩
      rcases List.mem_append.1 hy with hy | hy
      · have := hEl y hy; omega
      · rw [List.mem_singleton.1 hy]; have := hx.lt; omega
  · rcases List.mem_append.1 hy with hy | hy
    · obtain ⟨q1, q2, q3⟩ := h.hld y hy
      exact ⟨(q1.step hb).kept hk (fun e => (h.top _ e).2.2.2 y hy rfl), q2, q3⟩
    · rw [List.mem_singleton.1 hy]
      exact ⟨hx.kept hk (fun e => by have := (h.top _ e).2.1; omega), hA _ hxn, hxl, hxm⟩
  · rw [List.map_append, List.nodup_append]
    refine ⟨h.apart, by simp, fun a ha b hb' => ?_⟩
    obtain ⟨y, hy, rfl⟩ := List.mem_map.1 ha
    simp only [List.map_cons, List.map_nil, List.mem_singleton] at hb'
    have := hEl y hy
    omega
  · exact (h.frow.below hb).kept hk (fun g e _ _ e2 => by simp only [Option.some.injEq, Addr.mk.injEq, and_true] at e; subst e; exact (h.top _ e2).2.2.1 rfl)
  · rcases List.mem_append.1 hy with hy | hy
    · exact h.fap y hy
    · rw [List.mem_singleton.1 hy]; omega
end
/-- A book of the specification's own, told. -/
def SAns (w : World) (b : BkT) (e : Ending) (w' : World) : Prop :=
  ∃ ba m cap f mf fcap E, e = .returned (vBook (.slice ba m cap) (.slice (some ⟨f, 0, none⟩) mf fcap)) ∧ bills E = b.1 ∧ SBk (fun k => w.heap.size ≤ k) w' ba m cap f mf fcap E b.2 ∧ Below w.heap.size w w'
/-- What is held while a book is copied. -/
structure Cp (w wr : World) (av fv : Value) (gO : Nat) (ba : Option Addr) (m cap f mf fcap : Nat) (E : List EBl) (F : List Int) : Prop where
  below : Below w.heap.size w wr
  arg : OwnV wr w.heap.size [av, fv]
  res : OwnV wr (w.heap.size + 1) [.slice none 0 0, .slice none 0 0]
  box : OwnV wr gO [.slice ba m cap, .slice (some ⟨f, 0, none⟩) mf fcap]
  bk : SBk (fun k => w.heap.size + 1 < k ∧ k ≠ gO) wr ba m cap f mf fcap E F
  ap : w.heap.size + 1 < gO
section
variable {w wr w1 w2 : World} {av fv : Value} {gO : Nat} {ba : Option Addr} {m cap f mf fcap g' cap' : Nat} {E : List EBl} {F : List Int}
theorem Cp.step (h : Cp w wr av fv gO ba m cap f mf fcap E F) (hb : Below wr.heap.size wr w1) : Cp w w1 av fv gO ba m cap f mf fcap E F :=
  ⟨Below.step h.below hb, h.arg.step hb, h.res.step hb, h.box.step hb, h.bk.step hb, h.ap⟩
theorem Cp.next {x : EBl} (h : Cp w wr av fv gO ba m cap f mf fcap E F) (hb : Below wr.heap.size wr w1) (hx : OwnV w1 x.2.1 (strs x.1.2.2.2.2)) (hxl : x.1.2.2.2.2.length ≤ x.2.2) (hxm : x.2.2 ≤ maxLen) (hxn : wr.heap.size ≤ x.2.1)
    (hr : RowB 40 5 eBl 0 w2 (some ⟨g', 0, none⟩) (m + 1) cap' (E ++ [x])) (hk : Kept (fun k => ba = some ⟨k, 0, none⟩) w1 w2) (hor : ba = some ⟨g', 0, none⟩ ∨ g' = w1.heap.size) : Cp w (w2.setCell ⟨gO, 0, none⟩ (.slice (some ⟨g', 0, none⟩) (m + 1) cap')) av fv gO (some ⟨g', 0, none⟩) (m + 1) cap' f mf fcap (E ++ [x]) F := by
  have hs := h.step hb
  have hap := h.ap
  have hl := h.box.lt
  have n1 : ∀ k, ba = some ⟨k, 0, none⟩ → w.heap.size + 1 < k ∧ k ≠ gO := fun k e => (h.bk.top k e).1
  have hK : Kept (fun k => w.heap.size + 1 < k ∧ k ≠ gO) w1 w2 := hk.mono (fun k _ e => n1 k e)
  exact ⟨((hs.below.trans (hK.below (B := w.heap.size) hs.below.size (fun b e => by omega))).setCell (p := ⟨gO, 0, none⟩) (by show w.heap.size ≤ gO; omega) _), farN (hs.arg.kept hK (by omega)) (by omega) _ _, farN (hs.res.kept hK (by omega)) (by omega) _ _, (hs.box.kept hK (by omega)).set 0 _ (by simp), (h.bk.snoc hb rfl hx hxl hxm hxn (fun k hk => by omega) hr hk hor).far (by omega), hap⟩
end

theorem take_snoc' {L : List BlT} {E : List EBl} {k : Nat} {x : BlT} (he : bills E = L.take k) (hk : k < L.length) (hx : L.getD k default = x) (gh c : Nat) : bills (E ++ [(x, gh, c)]) = L.take (k + 1) := by
  rw [List.take_add_one, ← he, List.getElem?_eq_getElem hk]
  rw [getD_lt hk] at hx
  simp [bills, hx]

set_option maxRecDepth 10000 in
set_option maxHeartbeats 6400000 in
theorem specCopy_any (bv fv : Value) (b : BkT) (w : World) (h : BkIn w bv fv b) (hbd : Bd b) :
    Calls Try.prog 36 #[vBook bv fv] w fun e w' => SAns w b e w' := by
  obtain ⟨L, F⟩ := b
  obtain ⟨h, hF⟩ := h
  have h' := h
  have hF' := hF
  obtain ⟨ao, cap, rfl, hlc, hlm, -⟩ := h'
  obtain ⟨fo, fcap, rfl, -⟩ := hF'
  dsimp only at h hF hlc ⊢
  unfold maxLen at hlm
  obtain ⟨hn, hnf, -⟩ := id hbd
  dsimp only at hn hnf
  have HHL : Hid (∀ r, r < L.length → (L.getD r default).2.2.2.2.length ≤ 1048576) := fun r hr => hbd.held hr
  have HC := hide h
  obtain ⟨V1, eV1⟩ : ∃ V, V = (w.alloc (.cells #[.slice ao L.length cap, .slice fo F.length fcap] 27)).alloc (.cells #[.slice none 0 0, .slice none 0 0] 27) := ⟨_, rfl⟩
  have HW : Hid (Below w.heap.size w V1) := by show Below _ _ _; rw [eV1]; exact Below.step (Below.alloc1 _ _) (Below.alloc1 _ _)
  have HA : Hid (OwnV V1 w.heap.size [.slice ao L.length cap, .slice fo F.length fcap]) := by show OwnV _ _ _; rw [eV1]; exact (ownV_alloc w #[.slice ao L.length cap, .slice fo F.length fcap] 27).alloc _
  have HR : Hid (OwnV V1 (w.heap.size + 1) [.slice none 0 0, .slice none 0 0]) := by
    have := ownV_alloc (w.alloc (.cells #[.slice ao L.length cap, .slice fo F.length fcap] 27)) #[.slice none 0 0, .slice none 0 0] 27
    rw [World.size_alloc] at this
    show OwnV _ _ _
    rw [eV1]; exact this
  have A1 := Below.alloc1 V1 (.cells #[] 3)
  have HF1 := hide (ints_recs ((hF.below (unhide HW)).below A1))
  clear h hF hbd
  unfold vBook
  go_enter Try.func36, Try.ntmps36
  go_upto_region 1 with (fail)
  rw [← eV1]
  clear eV1
  have HN := hide (rowB_new 3 1 eI V1 V1.heap.size (Nat.le_refl _))
  have HW1 := hide (Below.step (unhide HW) A1)
  have HA1 := hide ((unhide HA).step A1)
  have HR1 := hide ((unhide HR).step A1)
  have a1 := (unhide HA1).cell (i := 1) rfl
  have hlA := (unhide HR).lt
  have hws0 : V1.heap.size ≤ (V1.alloc (.cells #[] 3)).heap.size := A1.size
  clear A1 HW HA HR
  go_upto_region 2 with (at_builtin; go_must (refine wpList_appTo tyI _ rfl _ _ rfl V1.heap.size V1.heap.size 0 0 [] rfl (unhide HN) hws0 (by omega) fo F.length fcap F rfl (unhide HF1) hnf ?_); intro f fc w1 hL hK hor; have HL := hide hL; have HK := hide hK; have HOR := hide hor; clear hL hK hor)
  rw [Nat.zero_add, List.nil_append] at HL
  have hsA : (V1.alloc (.cells #[] 3)).heap.size = V1.heap.size + 1 := World.size_alloc _ _
  have hsK := (unhide HK).size
  have hfo : V1.heap.size ≤ f := by rcases unhide HOR with e | e <;> omega
  have hfl := ((unhide HL).mono (Nat.zero_le _)).ownG (by omega)
  have A2 := Below.alloc1 w1 (.cells #[.slice none 0 0, .slice (some ⟨f, 0, none⟩) F.length fc] 27)
  have HS : Hid (Cp w (w1.alloc (.cells #[.slice none 0 0, .slice (some ⟨f, 0, none⟩) F.length fc] 27)) (.slice ao L.length cap) (.slice fo F.length fcap) w1.heap.size none 0 0 f F.length fc [] F) := by
    have hlt := hfl.2.2.2.1
    refine ⟨Below.step ((unhide HW1).trans ((unhide HK).below (B := w.heap.size) (unhide HW1).size (fun b e => by omega))) A2, ((unhide HA1).kept (unhide HK) (by omega)).step A2, ((unhide HR1).kept (unhide HK) (by omega)).step A2, ownV_alloc w1 #[.slice none 0 0, .slice (some ⟨f, 0, none⟩) F.length fc] 27, ?_, by omega⟩
    have hs0 : SBk (fun k => w.heap.size + 1 < k ∧ k ≠ w1.heap.size) w1 none 0 0 f F.length fc [] F := ⟨rowB_nil _ _ _ _ _, (fun g e => by cases e), (fun x hx => by simp at hx), (by simp), (unhide HL).mono (Nat.zero_le _), ⟨by omega, by omega⟩, fun x hx => by simp at hx⟩
    exact hs0.step A2
  obtain ⟨V2, eV2⟩ : ∃ V, V = w1.alloc (.cells #[.slice none 0 0, .slice (some ⟨f, 0, none⟩) F.length fc] 27) := ⟨_, rfl⟩
  obtain ⟨gO, egO⟩ : ∃ g, g = w1.heap.size := ⟨_, rfl⟩
  rw [← eV2] at HS ⊢
  rw [← egO] at HS ⊢
  clear eV2 egO A2 hfl hfo hsK hsA HL HK HOR HN HW1 HA1 HR1 a1 HF1 hws0
  go_wp2
  go_loopg [4] L.length (fun gg iv wr => ∃ (k : Nat) (ba : Option Addr) (c : Nat) (E : List EBl), k ≤ L.length ∧ gg = L.length - k ∧ iv = .int .i64 k ∧ Hid (bills E = L.take k) ∧ Hid (Cp w wr (.slice ao L.length cap) (.slice fo F.length fcap) gO ba k c f F.length fc E F))
  case atStart => exact ⟨0, none, 0, [], Nat.zero_le _, rfl, rfl, (rfl : _ = _), HS⟩
  case round =>
    clear HS
    obtain ⟨k, ba, c, E, hk, rfl, rfl, EB, HS⟩ := hrel
    have q0 := (unhide HS).arg.cell (i := 0) rfl
    by_cases hkn : k < L.length
    · obtain ⟨bb, o, na, nc, xi, sh, od, mn, H, m, rfl, hc0, hc1, hc2, hc3, hc4, hr, EX, EM, hm0⟩ := (unhide HC).at hkn
      have hki : (k : Int) < L.length := by omega
      have hhl := unhide HHL k hkn
      rw [unhide EX] at hhl
      have g0 := wcell3 hc0 (unhide HS).below
      have g1 := wcell3 hc1 (unhide HS).below
      have g2 := wcell3 hc2 (unhide HS).below
      have g3 := wcell3 hc3 (unhide HS).below
      have g4 := wcell3 hc4 (unhide HS).below
      have em := unhide EM
      subst em
      clear EM hm0
      dsimp only at hhl
      have HBX := hide (take_snoc' (E := E) (L := L) (unhide EB) hkn (unhide EX))
      have A5 := Below.alloc1 wr (.cells #[.int .i64 xi, .string sh, .string od, .int .i64 mn, .slice na H.length nc] 40)
      have HX := hide (ownV_alloc wr #[.int .i64 xi, .string sh, .string od, .int .i64 mn, .slice na H.length nc] 40)
      have hsV : (wr.alloc (.cells #[.int .i64 xi, .string sh, .string od, .int .i64 mn, .slice na H.length nc] 40)).heap.size = wr.heap.size + 1 := World.size_alloc _ _
      have HSI := hide ((hr.below (unhide HS).below).below A5)
      have hba : ∀ b, ba = some ⟨b, 0, none⟩ → b < wr.heap.size := fun b e => ((unhide HS).bk.top b e).2.1
      have HBA := hide hba
      have hgO := (unhide HS).box.lt
      clear hc0 hc1 hc2 hc3 hc4 hr EX EB hba
      go_upto_region 6 with (fail)
      obtain ⟨V5, eV5⟩ : ∃ z, z = wr.alloc (.cells #[.int .i64 xi, .string sh, .string od, .int .i64 mn, .slice na H.length nc] 40) := ⟨_, rfl⟩
      rw [← eV5] at HX A5 hsV HSI ⊢
      obtain ⟨gx, egx⟩ : ∃ z, z = wr.heap.size := ⟨_, rfl⟩
      rw [← egx] at HX ⊢
      have A6 := Below.alloc1 V5 (.cells #[] 9)
      have hV5 : wr.heap.size < V5.heap.size := by omega
      have hgx : gx < V5.heap.size := by omega
      have HGX := hide egx
      clear hsV
      have HN6 := hide (rowB_new 9 1 eS V5 V5.heap.size (Nat.le_refl _))
      have HF6 := hide (SIn.recs ((unhide HSI).below A6))
      have HX6 := hide ((unhide HX).step A6)
      have HB6 := hide (Below.step A5 A6)
      have hws6 : V5.heap.size ≤ (V5.alloc (.cells #[] 9)).heap.size := A6.size
      clear eV5 egx A5 A6 HX HSI g0 g1 g2 g3 g4 q0
      have x4 := (unhide HX6).cell (i := 4) rfl
      go_upto_region 7 with (at_builtin; go_must (refine wpList_appTo tyS _ rfl _ _ rfl V5.heap.size V5.heap.size 0 0 [] rfl (unhide HN6) hws6 (by omega) na H.length nc H rfl (unhide HF6) hhl ?_); intro gh hc w6 hL hK hor; have HL := hide hL; have HK := hide hK; have HOR := hide hor; have HX7 := hide ((unhide HX6).kept hK (by omega)); have y4 := (unhide HX7).cell (i := 4) rfl; have yf := (unhide HX7).frozen; clear hL hK hor)
      rw [Nat.zero_add, List.nil_append] at HL
      have hgh : V5.heap.size ≤ gh := by rcases unhide HOR with e | e <;> omega
      obtain ⟨z1, z2, z3, z4, -⟩ := ((unhide HL).mono (Nat.zero_le _)).ownG (by omega)
      rw [recS] at z1
      have HB7 := hide (((unhide HB6).trans ((unhide HK).below (B := wr.heap.size) (unhide HB6).size (fun b e => by omega))).setCell (p := ⟨gx, 4, none⟩) (by show wr.heap.size ≤ gx; have := unhide HGX; omega) (.slice (some ⟨gh, 0, none⟩) H.length hc))
      have HG7 := hide (farN z1 (show gh ≠ gx by omega) 4 (.slice (some ⟨gh, 0, none⟩) H.length hc))
      have HX8 := hide ((unhide HX7).set 4 (.slice (some ⟨gh, 0, none⟩) H.length hc) (by simp))
      obtain ⟨V7, eV7⟩ : ∃ z, z = w6.setCell ⟨gx, 4, none⟩ (.slice (some ⟨gh, 0, none⟩) H.length hc) := ⟨_, rfl⟩
      rw [← eV7] at HB7 HG7 HX8 ⊢
      clear eV7 z1 z4 y4 yf HX7 HK HOR HL x4 HX6 HB6 HF6 HN6 hws6
      have A8 := Below.alloc1 V7 (.cells #[.int .i64 xi, .string sh, .string od, .int .i64 mn, .slice (some ⟨gh, 0, none⟩) H.length hc] 40)
      have HO8 : Hid (OwnV (V7.alloc (.cells #[.int .i64 xi, .string sh, .string od, .int .i64 mn, .slice (some ⟨gh, 0, none⟩) H.length hc] 40)) V7.heap.size ((List.range 5).map (eBl ((xi, sh, od, mn, H), gh, hc)))) := ownV_alloc V7 #[.int .i64 xi, .string sh, .string od, .int .i64 mn, .slice (some ⟨gh, 0, none⟩) H.length hc] 40
      have HB8 := hide (Below.step (unhide HB7) A8)
      have HG8 := hide ((unhide HG7).step A8)
      have HS8 := hide ((unhide HS).step (unhide HB8))
      have x0 := (unhide HX8).cell (i := 0) rfl
      have x1 := (unhide HX8).cell (i := 1) rfl
      have x2 := (unhide HX8).cell (i := 2) rfl
      have x3 := (unhide HX8).cell (i := 3) rfl
      have x4 := (unhide HX8).cell (i := 4) rfl
      have b0 := ((unhide HS).step (unhide HB7)).box.cell (i := 0) rfl
      have hap := (unhide HS).ap
      have HNB : Hid (∀ b, ba = some ⟨b, 0, none⟩ → b ≠ gO) := fun b e => ((unhide HS).bk.top b e).1.2
      clear A8 HX8 HB7 HG7
      go_wp2_with (at_builtin; go_must (refine wpList_appRow tyB _ rfl _ _ rfl 0 ba k c E rfl (unhide HS8).bk.row (Nat.zero_le _) (by omega) V7.heap.size ((xi, sh, od, mn, H), gh, hc) 1 rfl (unhide HO8) ?_); intro g' cap' w9 hL hK hBg hat; have HL2 := hide hL; have HK2 := hide hK; have HAT := hide hat; have HBO := hide ((unhide HS8).box.kept hK (fun e => unhide HNB _ e rfl)); have b0' := (unhide HBO).cell (i := 0) rfl; have bf := (unhide HBO).frozen; clear hL hK hat b0 x0 x1 x2 x3 x4)
      have HN := hide ((unhide HS).next (x := ((xi, sh, od, mn, H), gh, hc)) (unhide HB8) (unhide HG8) z2 z3 (by show wr.heap.size ≤ gh; omega) (unhide HL2) (unhide HK2) (unhide HAT))
      go_roundg (L.length - (k + 1))
      case measure => omega
      case rel => exact ⟨k + 1, _, cap', _, by omega, rfl, by go_num, hide (unhide HBX gh hc), HN⟩
    · have hkk : k = L.length := by omega
      have h9 := unhide HS
      have he := unhide EB
      rw [hkk] at h9
      rw [hkk, List.take_length] at he
      have b0 := h9.box.cell (i := 0) rfl
      have b1 := h9.box.cell (i := 1) rfl
      have r0 := h9.res.cell (i := 0) rfl
      have r1 := h9.res.cell (i := 1) rfl
      have rf := h9.res.frozen
      have HR2 := hide ((h9.res.set 0 (.slice ba L.length c) (by simp)).set 1 (.slice (some ⟨f, 0, none⟩) F.length fc) (by simp))
      have HP := hide (((h9.bk.far (b := w.heap.size + 1) (i := 0) (u := .slice ba L.length c) (by omega)).far (b := w.heap.size + 1) (i := 1) (u := .slice (some ⟨f, 0, none⟩) F.length fc) (by omega)).mono (A' := fun k => w.heap.size ≤ k) (fun _ _ h => by omega))
      have HBW := hide ((h9.below.setCell (p := ⟨w.heap.size + 1, 0, none⟩) (by show w.heap.size ≤ w.heap.size + 1; omega) (.slice ba L.length c)).setCell (p := ⟨w.heap.size + 1, 1, none⟩) (by show w.heap.size ≤ w.heap.size + 1; omega) (.slice (some ⟨f, 0, none⟩) F.length fc))
      have HHE := hide he
      have hap := h9.ap
      have hq1 : ¬ gO = w.heap.size + 1 := by omega
      clear h9 HS he
      go_wp2
      have k0 := (unhide HR2).cell (i := 0) rfl
      have k1 := (unhide HR2).cell (i := 1) rfl
      refine bodyPost_ret (v := vBook (.slice ba L.length c) (.slice (some ⟨f, 0, none⟩) F.length fc)) (by simp [results, Try.results36, go_sem, vBook, k0, k1]) rfl ⟨ba, L.length, c, f, F.length, fc, E, rfl, unhide HHE, unhide HP, unhide HBW⟩

end Go.Proofs.Ytdcbonfhakdhhaa
