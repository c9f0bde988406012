/- Bills: the specification's DoBill: words; a bad call; a bill that is issued. Written by wip/mkbly.py. -/
import Derived.Test.YtdcbonfhakdhhaaBlV
import Derived.Test.YtdcbonfhakdhhaaBlO
import Derived.Deep.RegionLaw
namespace Go.Proofs.Ytdcbonfhakdhhaa
open Go.RowKit

theorem RowB.capLe {α : Type} [Inhabited α] {T : TypeId} {n : Nat} {enc : α → Nat → Value} {L : List α} {B : Nat} {w : World} {g m cap : Nat} (h : RowB T n enc B w (some ⟨g, 0, none⟩) m cap L) (hn : 0 < n) : m ≤ cap := ((h.mono (Nat.zero_le _)).ownG hn).2.1
/-- Any number of records more behind a row that is there, in a region that draws. -/
theorem step_appTo {α : Type} [Inhabited α] {n : Nat} {enc : α → Nat → Value} {St T : TypeId} (hty : RecTy St T n enc) {ops : Array Oper} {o : Oper} {a : Act} {w : World} {K : Act → World → Prop} {Q : Exit → Act → World → Prop} {E : Prop} (hgd : o.guard = none) (s x : Operand)
    (ho : o.op = .call { callee := .builtin .append, args := #[s, x], argTypes := #[St, St] })
    (B g m cap : Nat) (L : List α) (hs : a.eval s = .slice (some ⟨g, 0, none⟩) m cap) (h : RowB T n enc B w (some ⟨g, 0, none⟩) m cap L) (hB : B ≤ w.heap.size) (hm : m ≤ 1048576) (xo : Option Addr) (k c : Nat) (M : List α) (hx : a.eval x = .slice xo k c) (hX : RecsIn n enc w (.slice xo k c) M) (hk : k ≤ 1048576)
    (hK : ∀ g' cap' w', RowB T n enc B w' (some ⟨g', 0, none⟩) (m + k) cap' (L ++ M) → Kept (fun b => b = g) w w' → (g' = g ∨ g' = w.heap.size) → K (a.put o.dst (.slice (some ⟨g', 0, none⟩) (m + k) cap')) w') :
    if Region.wanted o (yielded ops a.tmps) = true then Oper.wp Try.prog o a w K Q else E := by
  obtain ⟨i0, z, bytes, hinf, hz0, hz1, hz2, hz3, hby⟩ := hty.inf
  have hbb : (m + k) * bytes ≤ 140737488355328 := by
    have : (m + k) * bytes ≤ 2097152 * 1000 := Nat.mul_le_mul (by omega) hby
    omega
  have hkl : M.length = k := by
    obtain ⟨_, _, e, _⟩ := hX
    simp only [Value.slice.injEq] at e
    exact e.2.1.symm
  by_cases hk0 : k = 0
  · subst hk0
    have hM : M = [] := List.length_eq_zero_iff.1 hkl
    subst hM
    rw [List.append_nil] at hK
    have hw : Region.wanted o (yielded ops a.tmps) = true := by simp [Region.wanted, hgd]
    rw [if_pos hw]
    have hrun := run_append_zer (P := Try.prog) w St o.type T i0 hty.und hinf ⟨g, 0, none⟩ m cap c xo (h.capLe hty.pos)
    unfold Oper.wp
    simp [execOp, ho, resolve, invoke, builtin, hs, hx, hrun, Result.andThen]
    exact hK _ cap w h (Kept.refl _ _) (Or.inl rfl)
  · obtain ⟨ad, rfl, hsrc⟩ := recs_src hX (by omega)
    refine step_append_lies w hgd s x St ho B T i0 z n bytes hty.und hinf hz0 hz1 hz2 hz3 hty.pos _ m (recCells n enc L) hs h ad k c (recCells n enc M) hx (by rw [recCells_length, hkl]) hsrc (hty.cells M) (by omega) (by unfold maxLen; omega) hbb hB _ rfl ?_
    intro g' cap' w' h2 h3 h4 _
    have hob : ∀ k, (Value.slice (some ⟨g, 0, none⟩) m cap).ownBlock = some k → k = g := fun k hk => by
      simp [Value.ownBlock] at hk; rw [hk]
    refine hK _ cap' w' ?_ ⟨h3.os, h3.tape, h3.output, h3.size, fun k hk hn => h3.block k hk (fun e => hn (hob k e.symm))⟩ (h4.imp (hob g') id)
    unfold RowB
    rw [recCells_append n hty.pos]
    exact h2

/-- What the specification's DoBill tells: a book that can be read, whatever turns of what was there ahead of it, and a code. -/
def BAns (w : World) (b : BkT × Int) (e : Ending) (w' : World) : Prop :=
  ∃ bv fv, e = .returned (.tuple #[vBook bv fv, .int .i64 b.2]) ∧ (∀ W2, Kept (fun k => k < w.heap.size) w' W2 → BkIn W2 bv fv b.1) ∧ Below w.heap.size w w'
/-- Blocks of the call's own, but for its boxes. -/
def sA (B G k : Nat) : Prop := B + 2 < k ∧ k ≠ G
/-- What is held while it works. -/
structure Sd (w W : World) (av fv : Value) (ov : List Value) (G : Nat) (ba : Option Addr) (m cap f mf fcap : Nat) (E : List EBl) (F : List Int) : Prop where
  below : Below w.heap.size w W
  arg : OwnV W w.heap.size [av, fv]
  op : OwnV W (w.heap.size + 1) ov
  res : OwnV W (w.heap.size + 2) [.slice none 0 0, .slice none 0 0]
  box : OwnV W G [.slice ba m cap, .slice (some ⟨f, 0, none⟩) mf fcap]
  bk : SBk (sA w.heap.size G) W ba m cap f mf fcap E F
  ap : w.heap.size + 2 < G
section
variable {w W W' : World} {av fv : Value} {ov : List Value} {G : Nat} {ba : Option Addr} {m cap f mf fcap : Nat} {E : List EBl} {F : List Int}
theorem Sd.step (h : Sd w W av fv ov G ba m cap f mf fcap E F) (hb : Below W.heap.size W W') : Sd w W' av fv ov G ba m cap f mf fcap E F :=
  ⟨Below.step h.below hb, h.arg.step hb, h.op.step hb, h.res.step hb, h.box.step hb, h.bk.step hb, h.ap⟩
theorem Sd.drewN (h : Sd w W av fv ov G ba m cap f mf fcap E F) (n : Nat) : Sd w (W.drewN n) av fv ov G ba m cap f mf fcap E F := h.step (below_drewN (Below.refl _ _) n)
theorem Sd.fin (h : Sd w W av fv ov G ba m cap f mf fcap E F) : OwnV ((W.setCell ⟨w.heap.size + 2, 0, none⟩ (.slice ba m cap)).setCell ⟨w.heap.size + 2, 1, none⟩ (.slice (some ⟨f, 0, none⟩) mf fcap)) (w.heap.size + 2) [.slice ba m cap, .slice (some ⟨f, 0, none⟩) mf fcap] ∧ (∀ W2, Kept (fun k => k < w.heap.size) ((W.setCell ⟨w.heap.size + 2, 0, none⟩ (.slice ba m cap)).setCell ⟨w.heap.size + 2, 1, none⟩ (.slice (some ⟨f, 0, none⟩) mf fcap)) W2 → BkIn W2 (.slice ba m cap) (.slice (some ⟨f, 0, none⟩) mf fcap) (bills E, F)) ∧ Below w.heap.size w ((W.setCell ⟨w.heap.size + 2, 0, none⟩ (.slice ba m cap)).setCell ⟨w.heap.size + 2, 1, none⟩ (.slice (some ⟨f, 0, none⟩) mf fcap)) :=
  ⟨(h.res.set 0 _ (by simp)).set 1 _ (by simp), fun W2 hk2 => (((h.bk.far (b := w.heap.size + 2) (i := 0) (u := .slice ba m cap) (by unfold sA; omega)).far (b := w.heap.size + 2) (i := 1) (u := .slice (some ⟨f, 0, none⟩) mf fcap) (by unfold sA; omega)).kept hk2 (fun k _ hA hT => by unfold sA at hA; have hT : k < w.heap.size := hT; omega)).inn, (h.below.setCell (p := ⟨w.heap.size + 2, 0, none⟩) (by show w.heap.size ≤ w.heap.size + 2; omega) _).setCell (p := ⟨w.heap.size + 2, 1, none⟩) (by show w.heap.size ≤ w.heap.size + 2; omega) _⟩
end

set_option maxRecDepth 100000 in
set_option maxHeartbeats 8000000 in
theorem specDoBad_any (bv fv : Value) (b : BkT) (kd id : Int) (who tt : ByteArray) (num many : Int) (w : World) (h : BkIn w bv fv b) (hbd : Bd b) (htx : ∀ x ∈ b.1, TxB x) (hto : txtBillOp (kd, id, who, tt, num, many) maxLen) (hno : (bookB b && opB (kd, id, who, tt, num, many)) = false) :
    Calls Try.prog 9 #[vBook bv fv, vBillOp kd id who tt num many] w fun e w' => BAns w (doB b (kd, id, who, tt, num, many)) e w' := by
  have QC := hide fun V (hV : Below w.heap.size w V) => specCopy_any bv fv b V (h.below hV) hbd
  have QB := hide fun V (hV : Below w.heap.size w V) => specBookOk_any bv fv b V (h.below hV) htx
  have QO := hide fun V => specOp_any kd id who tt num many V hto
  have QF := hide fun V (hV : Below w.heap.size w V) => l14Find_any bv fv b id V (h.below hV)
  have QH := hide fun V (hV : Below w.heap.size w V) => l9Has_any fv b.2 id V (h.2.below hV)
  obtain ⟨L, F⟩ := b
  have h' := h
  obtain ⟨⟨ao, cap0, rfl, hl0, hm0, -⟩, ⟨fo, fcap0, rfl, -⟩⟩ := h'
  dsimp only at hl0
  unfold maxLen at hm0
  have HBD := hide hbd
  obtain ⟨V1, eV1⟩ : ∃ V, V = ((w.alloc (.cells #[.slice ao L.length cap0, .slice fo F.length fcap0] 27)).alloc (.cells #[.int .i64 kd, .int .i64 id, .string who, .string tt, .int .i64 num, .int .i64 many] 34)).alloc (.cells #[.slice none 0 0, .slice none 0 0] 27) := ⟨_, rfl⟩
  have hb0 := Below.step (Below.step (Below.alloc1 w (.cells #[.slice ao L.length cap0, .slice fo F.length fcap0] 27)) (Below.alloc1 _ (.cells #[.int .i64 kd, .int .i64 id, .string who, .string tt, .int .i64 num, .int .i64 many] 34))) (Below.alloc1 _ (.cells #[.slice none 0 0, .slice none 0 0] 27))
  have h1 := ((ownV_alloc w #[.slice ao L.length cap0, .slice fo F.length fcap0] 27).alloc (.cells #[.int .i64 kd, .int .i64 id, .string who, .string tt, .int .i64 num, .int .i64 many] 34)).alloc (.cells #[.slice none 0 0, .slice none 0 0] 27)
  have h2 := ownV_alloc (w.alloc (.cells #[.slice ao L.length cap0, .slice fo F.length fcap0] 27)) #[.int .i64 kd, .int .i64 id, .string who, .string tt, .int .i64 num, .int .i64 many] 34
  have h3 := ownV_alloc ((w.alloc (.cells #[.slice ao L.length cap0, .slice fo F.length fcap0] 27)).alloc (.cells #[.int .i64 kd, .int .i64 id, .string who, .string tt, .int .i64 num, .int .i64 many] 34)) #[.slice none 0 0, .slice none 0 0] 27
  replace h2 := h2.alloc (.cells #[.slice none 0 0, .slice none 0 0] 27)
  have hsz : V1.heap.size = w.heap.size + 3 := by rw [eV1]; simp only [World.size_alloc]
  simp only [World.size_alloc] at h2 h3
  rw [← eV1] at hb0 h1 h2 h3
  have HW : Hid (Below w.heap.size w V1) := hb0
  have HA : Hid (OwnV V1 w.heap.size [.slice ao L.length cap0, .slice fo F.length fcap0]) := h1
  have HO : Hid (OwnV V1 (w.heap.size + 1) [.int .i64 kd, .int .i64 id, .string who, .string tt, .int .i64 num, .int .i64 many]) := h2
  have HR : Hid (OwnV V1 (w.heap.size + 2) [.slice none 0 0, .slice none 0 0]) := h3
  clear h hb0 h1 h2 h3 hbd htx hto
  dsimp only at QC QB QF QH
  have ED : Hid (doB (L, F) (kd, id, who, tt, num, many) = ((L, F), 1)) := by show _ = _; rw [doB, if_pos hno]
  generalize bookB (L, F) = z1 at *
  generalize opB (kd, id, who, tt, num, many) = z2 at *
  unfold vBook at QC QB QF
  unfold vBillOp at QO
  unfold vBook vBillOp
  go_enter Try.func9, Try.ntmps9
  go_upto_region 1 with (fail)
  rw [← eV1]
  clear eV1
  have a0 := (unhide HA).cell (i := 0) rfl
  have a1 := (unhide HA).cell (i := 1) rfl
  go_wp2_with fail
  refine (unhide QC _ (unhide HW)).mono ?_
  rintro e wa hs
  obtain ⟨ba, m, cap, f, mf, fcap, E, rfl, eE, hS, hb⟩ := hs
  obtain ⟨V2, eV2⟩ : ∃ V, V = wa.alloc (.cells #[.slice ba m cap, .slice (some ⟨f, 0, none⟩) mf fcap] 27) := ⟨_, rfl⟩
  have A2 := Below.alloc1 wa (.cells #[.slice ba m cap, .slice (some ⟨f, 0, none⟩) mf fcap] 27)
  have HS : Hid (Sd w V2 (.slice ao L.length cap0) (.slice fo F.length fcap0) [.int .i64 kd, .int .i64 id, .string who, .string tt, .int .i64 num, .int .i64 many] wa.heap.size ba m cap f mf fcap E F) := by
    have hbs := hb.size
    have hS2 := (hS.mono (A' := sA w.heap.size wa.heap.size) (fun k hk h => by unfold sA; omega)).step A2
    have hx := ownV_alloc wa #[.slice ba m cap, .slice (some ⟨f, 0, none⟩) mf fcap] 27
    show Sd _ _ _ _ _ _ _ _ _ _ _ _ _ _
    rw [eV2]
    exact ⟨Below.step (Below.step (unhide HW) hb) A2, ((unhide HA).step hb).step A2, ((unhide HO).step hb).step A2, ((unhide HR).step hb).step A2, hx, hS2, by omega⟩
  have HE := hide eE
  have hlens := hS.lens
  have hwG : w.heap.size + 2 < wa.heap.size := by have := hb.size; omega
  clear eE hS hb A2 HW HA HO HR a0 a1 hsz
  unfold vBook
  go_upto_region 2 with (fail)
  rw [← eV2]
  clear eV2
  obtain ⟨G, eG⟩ : ∃ g, g = wa.heap.size := ⟨_, rfl⟩
  rw [← eG] at HS hwG ⊢
  clear eG
  have eEl : E.length = L.length := by rw [← unhide HE]; simp [bills]
  obtain ⟨hl1, hl2⟩ := hlens
  have hm : m = L.length := by omega
  have hmf : mf = F.length := hl2.symm
  subst hm hmf
  have HEL := hide eEl
  clear eEl hl1 hl2
  have a0 := (unhide HS).arg.cell (i := 0) rfl
  have a1 := (unhide HS).arg.cell (i := 1) rfl
  go_wp2_with fail
  refine (unhide QB _ (unhide HS).below).mono ?_
  rintro e w1 ⟨rfl, hb⟩
  replace HS := hide ((unhide HS).step hb)
  clear hb QB a0 a1
  cases z1 with
  | false =>
    have a0 := (unhide HS).arg.cell (i := 0) rfl
    have a1 := (unhide HS).arg.cell (i := 1) rfl
    have o0 := (unhide HS).op.cell (i := 0) rfl
    have o1 := (unhide HS).op.cell (i := 1) rfl
    have o2 := (unhide HS).op.cell (i := 2) rfl
    have o3 := (unhide HS).op.cell (i := 3) rfl
    have o4 := (unhide HS).op.cell (i := 4) rfl
    have o5 := (unhide HS).op.cell (i := 5) rfl
    have b0 := (unhide HS).box.cell (i := 0) rfl
    have b1 := (unhide HS).box.cell (i := 1) rfl
    have bf := (unhide HS).box.frozen
    have r0 := (unhide HS).res.cell (i := 0) rfl
    have r1 := (unhide HS).res.cell (i := 1) rfl
    have rf := (unhide HS).res.frozen
    clear QO hno
    have HF := hide (unhide HS).fin
    have hn1 : ¬ G = w.heap.size + 2 := by omega
    go_wp2
    have k0 := (unhide HF).1.cell (i := 0) rfl
    have k1 := (unhide HF).1.cell (i := 1) rfl
    refine bodyPost_ret (v := .tuple #[vBook (.slice ba L.length cap) (.slice (some ⟨f, 0, none⟩) F.length fcap), .int .i64 1]) (by simp [results, Try.results9, go_sem, vBook, k0, k1]) rfl ?_
    show BAns _ _ _ _
    rw [unhide ED]
    have hin := (unhide HF).2.1
    rw [unhide HE] at hin
    exact ⟨_, _, rfl, hin, (unhide HF).2.2⟩
  | true =>
    have a0 := (unhide HS).arg.cell (i := 0) rfl
    have a1 := (unhide HS).arg.cell (i := 1) rfl
    have o0 := (unhide HS).op.cell (i := 0) rfl
    have o1 := (unhide HS).op.cell (i := 1) rfl
    have o2 := (unhide HS).op.cell (i := 2) rfl
    have o3 := (unhide HS).op.cell (i := 3) rfl
    have o4 := (unhide HS).op.cell (i := 4) rfl
    have o5 := (unhide HS).op.cell (i := 5) rfl
    have b0 := (unhide HS).box.cell (i := 0) rfl
    have b1 := (unhide HS).box.cell (i := 1) rfl
    have bf := (unhide HS).box.frozen
    have r0 := (unhide HS).res.cell (i := 0) rfl
    have r1 := (unhide HS).res.cell (i := 1) rfl
    have rf := (unhide HS).res.frozen
    go_wp2_with fail
    refine (unhide QO _).mono ?_
    rintro e w2 ⟨rfl, hb⟩
    replace HS := hide ((unhide HS).step hb)
    clear hb QO
    clear a0 a1 o0 o1 o2 o3 o4 o5 b0 b1 bf r0 r1 rf
    have a0 := (unhide HS).arg.cell (i := 0) rfl
    have a1 := (unhide HS).arg.cell (i := 1) rfl
    have o0 := (unhide HS).op.cell (i := 0) rfl
    have o1 := (unhide HS).op.cell (i := 1) rfl
    have o2 := (unhide HS).op.cell (i := 2) rfl
    have o3 := (unhide HS).op.cell (i := 3) rfl
    have o4 := (unhide HS).op.cell (i := 4) rfl
    have o5 := (unhide HS).op.cell (i := 5) rfl
    have b0 := (unhide HS).box.cell (i := 0) rfl
    have b1 := (unhide HS).box.cell (i := 1) rfl
    have bf := (unhide HS).box.frozen
    have r0 := (unhide HS).res.cell (i := 0) rfl
    have r1 := (unhide HS).res.cell (i := 1) rfl
    have rf := (unhide HS).res.frozen
    have hz : z2 = false := by simpa using hno
    subst hz
    clear hno
    have HF := hide (unhide HS).fin
    have hn1 : ¬ G = w.heap.size + 2 := by omega
    go_wp2
    have k0 := (unhide HF).1.cell (i := 0) rfl
    have k1 := (unhide HF).1.cell (i := 1) rfl
    refine bodyPost_ret (v := .tuple #[vBook (.slice ba L.length cap) (.slice (some ⟨f, 0, none⟩) F.length fcap), .int .i64 1]) (by simp [results, Try.results9, go_sem, vBook, k0, k1]) rfl ?_
    show BAns _ _ _ _
    rw [unhide ED]
    have hin := (unhide HF).2.1
    rw [unhide HE] at hin
    exact ⟨_, _, rfl, hin, (unhide HF).2.2⟩

end Go.Proofs.Ytdcbonfhakdhhaa
