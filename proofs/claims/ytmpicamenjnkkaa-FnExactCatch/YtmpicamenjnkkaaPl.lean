/- Laid together out of: MpA, ImD, ImE, ImF. -/
import Derived.Test.YtmpicamenjnkkaaPk
import Derived.Maps.OwnSet
import Derived.Carry
import Derived.Deep.RegionHeld3

/- A map of features of the call's own, told by the list of its features in the order of their ids. No statement about the program stands here. -/
namespace Go.Proofs.Ytmpicamenjnkkaa
open Go.RowKit Go.ChangeMaps Go.MapKept

def vF (f : FeatureT) : Value := vFeature f.1 f.2.1 f.2.2.1 f.2.2.2.1 f.2.2.2.2
def mR (v : Value) : Option (DataW Value × List MemPlace) := some (.held v, [])
def mE (f : FeatureT) : Lit × DataW Value := (Lit.int .i64 f.1, DataW.held (vF f))
def mD (F : List FeatureT) : DataW Value := .map (F.map mE)
def MapF (w : World) (b n : Nat) (F : List FeatureT) : Prop := w.ownsMap Try.prog 3 mR b n (mD F)

theorem mD_has (F : List FeatureT) (id : Int) : Maps.has (mD F) (.int .i64 id) = hasF id F := by
  unfold mD hasF
  rw [Maps.has_eq, List.any_map]
  congr 1
  funext f
  simp [mE, Lit.sameKey]
theorem mD_size (F : List FeatureT) : Maps.size (mD F) = F.length := by unfold mD; rw [Maps.size_eq, List.length_map]
theorem mD_filter (F : List FeatureT) (id : Int) : (F.map mE).filter (notKey (.int .i64 id)) = (delF id F).map mE := by
  unfold delF
  rw [List.filter_map]
  congr 2
  funext f
  simp [mE, notKey, Lit.sameKey]
theorem mD_ins (f : FeatureT) : ∀ F : List FeatureT, DataW.insert (mE f) (F.map mE) = (insF f F).map mE
  | [] => rfl
  | y :: r => by
    rw [List.map_cons, DataW.insert, insF]
    by_cases h : f.1 < y.1
    · rw [if_pos h, if_pos (show (mE f).1.before (mE y).1 = true from decide_eq_true h)]; rfl
    · rw [if_neg h, if_neg (show ¬ (mE f).1.before (mE y).1 = true from fun e => h (of_decide_eq_true e)), mD_ins f r]; rfl
theorem mD_put (f : FeatureT) (F : List FeatureT) : (mD F).put (.int .i64 f.1) (.held (vF f)) = mD (putF f F) := by
  unfold mD putF
  rw [DataW.put_eq, putKey, mD_filter, ← mD_ins]
  rfl
theorem mD_del (id : Int) (F : List FeatureT) : (mD F).del (.int .i64 id) = mD (delF id F) := by
  unfold mD
  rw [DataW.del_eq, delKey, mD_filter]
theorem mD_at (F : List FeatureT) (id : Int) (zd : DataW Value) : (mD F).atKey (.int .i64 id) zd = match F.find? (fun f => decide (f.1 = id)) with | some f => .held (vF f) | none => zd := by
  unfold mD DataW.atKey
  dsimp only
  rw [List.find?_map]
  have e : ((fun p : Lit × DataW Value => p.1.sameKey (Lit.int .i64 id)) ∘ mE) = fun f : FeatureT => decide (f.1 = id) := by
    funext f
    simp [mE, Lit.sameKey]
  rw [e]
  cases F.find? (fun f => decide (f.1 = id)) <;> rfl

theorem wf64 {a : Int} (h0 : -9223372036854775808 ≤ a) (h1 : a ≤ 9223372036854775807) : (Lit.int .i64 a).wf = true := by
  have e0 : IntKind.i64.min = -9223372036854775808 := by decide
  have e1 : IntKind.i64.max = 9223372036854775807 := by decide
  simp only [Lit.wf, Bool.and_eq_true, decide_eq_true_eq, e0, e1]
  exact ⟨h0, h1⟩
theorem key64 {a : Int} (h0 : -9223372036854775808 ≤ a) (h1 : a ≤ 9223372036854775807) : keyOf Try.prog 3 (.int .i64 a) = some (.int .i64 a) := Maps.keyOf_int_mk Try.underlying3 (wf64 h0 h1)
theorem keyedInt : Maps.Keyed Try.prog 3 := Maps.int_keyed Try.underlying3

theorem grown_kept {w w' : World} {b : Nat} (h : w.grownBy w' (some b)) : Kept (fun x => x = b) w w' := ⟨h.os, h.tape, h.output, h.size, fun k hk hn => h.block k hk (fun e => hn (Option.some.inj e))⟩
theorem MapF.kept {T : Nat → Prop} {w w' : World} {b n : Nat} {F : List FeatureT} (h : MapF w b n F) (hk : Kept T w w') (hb : ¬ T b) : MapF w' b n F := by
  have hlt : b < w.heap.size := World.ownsMap.lt h
  obtain ⟨es, clock, h1, h2, h3, h4⟩ := h
  exact ⟨es, clock, (hk.block b hlt hb).trans h1, h2, h3, h4⟩
theorem MapF.step {w w' : World} {b n : Nat} {F : List FeatureT} (h : MapF w b n F) (hb : Below w.heap.size w w') : MapF w' b n F := h.kept (T := fun _ => False) (kept_of_below hb) (fun e => e)
theorem MapF.lt {w : World} {b n : Nat} {F : List FeatureT} (h : MapF w b n F) : b < w.heap.size := World.ownsMap.lt h

theorem MapF.drewN {w : World} {b n : Nat} {F : List FeatureT} (h : MapF w b n F) (m : Nat) : MapF (w.drewN m) b n F := by
  obtain ⟨es, clock, h1, h2, h3, h4⟩ := h
  exact ⟨es, clock, h1, h2, h3, h4⟩
theorem MapF.len {w : World} {b n : Nat} {F : List FeatureT} (h : MapF w b n F) (ty : TypeId) : (Builtin.len_ #[115] ty #[.map (some b)]).run Try.prog w = .ok (.int .i64 F.length) w := by
  have := World.ownsMap.len h Try.underlying115 ty
  rwa [mD_size] at this
theorem MapF.put {w : World} {b n : Nat} {F : List FeatureT} (h : MapF w b n F) (f : FeatureT) (hn : n < maxLen) (h0 : -9223372036854775808 ≤ f.1) (h1 : f.1 ≤ 9223372036854775807) :
    ∃ w', (Instr.mapUpdate 115 (.map (some b)) (.int .i64 f.1) (vF f)).run Try.prog w = .ok () w' ∧ MapF w' b (n + 1) (putF f F) ∧ Kept (fun x => x = b) w w' := by
  obtain ⟨w', hr, ho, hg⟩ := World.ownsMap.update (val := vF f) (d := .held (vF f)) (ps := []) h keyedInt Try.underlying115 hn (key64 h0 h1) rfl
  rw [mD_put] at ho
  exact ⟨w', hr, ho, grown_kept hg⟩
theorem MapF.del {w : World} {b n : Nat} {F : List FeatureT} (h : MapF w b n F) (id : Int) (h0 : -9223372036854775808 ≤ id) (h1 : id ≤ 9223372036854775807) :
    ∃ w', (∀ ty, (Builtin.delete_ #[115, 3] ty #[.map (some b), .int .i64 id]).run Try.prog w = .ok (.tuple #[]) w') ∧ MapF w' b n (delF id F) ∧ Kept (fun x => x = b) w w' := by
  obtain ⟨es, clock, hb, Ft, hs, hD⟩ := h
  obtain ⟨es', hrun, F', hle, hdel, _⟩ := Maps.fit_drop (ty := 0) keyedInt Try.underlying115 hb Ft (key64 h0 h1)
  refine ⟨_, fun ty => hrun, ⟨es', clock, heap_setBlock_same hb _, F', Nat.le_trans hle hs, ?_⟩, grown_kept (World.mapTurned.grown ⟨es, clock, es', clock, hb, rfl⟩)⟩
  rw [← mD_del, hD, DataW.del_eq, hdel]
/-- What a lookup gives: the feature, or the empty one. -/
def gF (F : List FeatureT) (id : Int) : FeatureT := (F.find? fun f => decide (f.1 = id)).getD (0, 0, 0, 0, ⟨#[]⟩)
theorem gF_found {F : List FeatureT} {id : Int} (h : 0 ≤ findOf F id) : gF F id = F.getD (findOf F id).toNat default := by
  unfold gF
  rw [(find_getD id F h).2]
  rfl
theorem MapF.look {w : World} {b n : Nat} {F : List FeatureT} (h : MapF w b n F) (id : Int) (h0 : -9223372036854775808 ≤ id) (h1 : id ≤ 9223372036854775807) :
    (Instr.lookup 115 (.map (some b)) (.int .i64 id) true).run Try.prog w = .ok (.tuple #[vF (gF F id), .bool (hasF id F)]) w := by
  obtain ⟨v, ps, hr, hv⟩ := World.ownsMap.look_ok (z := vF (0, 0, 0, 0, ⟨#[]⟩)) (zd := .held (vF (0, 0, 0, 0, ⟨#[]⟩))) (zp := []) h keyedInt Try.underlying115 (Try.zeroValue91 w) rfl (key64 h0 h1)
  rw [mD_has] at hr
  rw [mD_at] at hv
  simp only [mR, Option.some.injEq, Prod.mk.injEq] at hv
  have hv1 := hv.1
  unfold gF
  cases hf : F.find? (fun f => decide (f.1 = id)) with
  | some f =>
    rw [hf] at hv1
    simp only [DataW.held.injEq] at hv1
    rw [hv1] at hr
    exact hr
  | none =>
    rw [hf] at hv1
    simp only [DataW.held.injEq] at hv1
    rw [hv1] at hr
    exact hr
theorem MapF.get {w : World} {b n : Nat} {F : List FeatureT} (h : MapF w b n F) (id : Int) (h0 : -9223372036854775808 ≤ id) (h1 : id ≤ 9223372036854775807) (h2 : 0 ≤ findOf F id) :
    (Instr.lookup 115 (.map (some b)) (.int .i64 id) false).run Try.prog w = .ok (vF (F.getD (findOf F id).toNat default)) w := by
  obtain ⟨v, ps, hr, hv⟩ := World.ownsMap.lookup (z := vF (0, 0, 0, 0, ⟨#[]⟩)) (zd := .held (vF (0, 0, 0, 0, ⟨#[]⟩))) (zp := []) h keyedInt Try.underlying115 (Try.zeroValue91 w) rfl (key64 h0 h1)
  rw [mD_at, (find_getD id F h2).2] at hv
  simp only [mR, Option.some.injEq, Prod.mk.injEq, DataW.held.injEq] at hv
  rw [hv.1] at hr
  exact hr
theorem mapF_made (w : World) : MapF (w.alloc (.map #[] 0)) w.heap.size 0 [] := World.ownsMap_made w Try.prog 3 mR

end Go.Proofs.Ytmpicamenjnkkaa

/- A sheet of the program's, in numbers; the contract of sheetOf. -/
namespace Go.Proofs.Ytmpicamenjnkkaa
open Go.RowKit

/-- A sheet that holds the chart c: its box s, the depths' row gd, the map b. -/
structure Sh (w W : World) (s gd b n : Nat) (fv : Value) (c : Ch) : Prop where
  below : Below w.heap.size w W
  box : OwnV W s [.int .i64 c.wd, .int .i64 c.hg, .slice (some ⟨gd, 0, none⟩) c.D.length c.D.length, fv, .int .i64 c.ed, .map (some b)]
  deps : OwnV W gd (ints c.D)
  map : MapF W b n c.F
  ne : s ≠ gd ∧ s ≠ b ∧ gd ≠ b
  lo : w.heap.size ≤ s ∧ w.heap.size ≤ gd ∧ w.heap.size ≤ b
theorem Sh.step {w W W' : World} {s gd b n : Nat} {fv : Value} {c : Ch} (h : Sh w W s gd b n fv c) (hb : Below W.heap.size W W') : Sh w W' s gd b n fv c :=
  ⟨Below.step h.below hb, h.box.step hb, h.deps.step hb, h.map.step hb, h.ne, h.lo⟩
theorem putF_snoc (f : FeatureT) : ∀ L : List FeatureT, Asc (L ++ [f]) → putF f L = L ++ [f] := fun L h => by
  have h1 := List.pairwise_append.1 h
  have hn : delF f.1 L = L := by
    unfold delF
    rw [List.filter_eq_self]
    intro g hg
    have := h1.2.2 g hg f (by simp)
    simp; omega
  unfold putF
  rw [hn]
  clear h hn
  induction L with
  | nil => rfl
  | cons y r ih =>
    have hy := h1.2.2 y List.mem_cons_self f (by simp)
    rw [insF, if_neg (by omega), List.cons_append, ih ⟨(List.pairwise_cons.1 h1.1).2, by simp, fun a ha b hb => h1.2.2 a (List.mem_cons_of_mem _ ha) b hb⟩]

theorem id_bd {c : Ch} (h : chartB c = true) {i : Nat} (hi : i < c.F.length) : 1 ≤ (c.F.getD i default).1 ∧ (c.F.getD i default).1 ≤ 1000000 := by
  simp only [chartB, Bool.and_eq_true] at h
  have hf := List.all_eq_true.1 h.2 i (by simpa using hi)
  simp only [featsB, featB, placeB, inB, Bool.and_eq_true, decide_eq_true_eq] at hf
  omega

set_option maxRecDepth 10000 in
set_option maxHeartbeats 8000000 in
theorem sheetOf_any (c : Ch) (dao : Option Addr) (dn dc : Nat) (fao : Option Addr) (fn fc : Nat) (w : World) (hD : IntsIn w (.slice dao dn dc) c.D) (hF : RFeature w (.slice fao fn fc) c.F) (hok : chartB c = true) :
    Calls Try.prog 43 #[vChart c.wd c.hg (.slice dao dn dc) (.slice fao fn fc) c.ed] w fun e w' => ∃ s, e = .returned (.pointer (some ⟨s, 0, none⟩)) ∧ ∃ gd b fa fk fl, Sh w w' s gd b c.F.length (.slice fa fk fl) c := by
  obtain rfl := ints_len_eq hD
  obtain rfl := recs_len_eq hF
  have A := Below.alloc1 w (.cells #[.int .i64 c.wd, .int .i64 c.hg, .slice dao c.D.length dc, .slice fao c.F.length fc, .int .i64 c.ed] 27)
  obtain ⟨hw0, hw1, hh0, hh1, hlen, hF30, -, -⟩ := chartB_head hok
  have hm := mul_le12 hw0 hw1 hh0 hh1
  have HO := hide (ownV_alloc w #[.int .i64 c.wd, .int .i64 c.hg, .slice dao c.D.length dc, .slice fao c.F.length fc, .int .i64 c.ed] 27)
  have HC := hide fun V (hV : Below w.heap.size w V) => ownChart_any c dao c.D.length dc fao c.F.length fc V (hD.below hV) (hF.below hV) (by omega) (by omega)
  have HF := hide hF
  have HW := hide A
  clear hD hF A
  unfold vChart at HC ⊢
  go_enter Try.func43, Try.ntmps43
  go_wp2_with fail
  refine (unhide HC _ (unhide HW)).mono ?_
  rintro e w1 ⟨g1, g2, rfl, hg1, hg2, ho1, ho2, hb⟩
  replace HO := hide ((unhide HO).step hb)
  replace HW := hide (Below.step (unhide HW) hb)
  have HD1 := hide ho1
  have hlt1 := ho1.lt
  have hlt2 := ho2.lt
  have b3 := (unhide HO).cell (i := 3) rfl
  have q3 : ∀ o o', ((w1.alloc o).alloc o').cell? ⟨w.heap.size, 3, none⟩ = some (.slice fao c.F.length fc) := fun o o' => wcell3 (wcell3 b3 (Below.alloc1 w1 o)) (Below.alloc1 _ o')
  have hmk := fun (W : World) => run_makeMap (P := Try.prog) 115 W
  clear hb HC ho1 ho2
  have hbx := ownV_alloc (w1.alloc (.map #[] 0)) #[.int .i64 c.wd, .int .i64 c.hg, .slice (some ⟨g1, 0, none⟩) c.D.length c.D.length, .slice (some ⟨g2, 0, none⟩) c.F.length c.F.length, .int .i64 c.ed, .map (some w1.heap.size)] 117
  simp only [World.size_alloc] at hbx
  have A2 := Below.step (Below.alloc1 w1 (.map #[] 0)) (Below.alloc1 _ (.cells #[.int .i64 c.wd, .int .i64 c.hg, .slice (some ⟨g1, 0, none⟩) c.D.length c.D.length, .slice (some ⟨g2, 0, none⟩) c.F.length c.F.length, .int .i64 c.ed, .map (some w1.heap.size)] 117))
  have hsw := (unhide HW).size
  have HS0 := hide (show Sh w _ (w1.heap.size + 1) g1 w1.heap.size 0 (.slice (some ⟨g2, 0, none⟩) c.F.length c.F.length) { c with F := c.F.take 0 } from ⟨Below.step (unhide HW) A2, hbx, (unhide HD1).step A2, (mapF_made w1).step (Below.alloc1 _ _), ⟨by omega, by omega, by omega⟩, ⟨by omega, by have := World.size_alloc w (.cells #[.int .i64 c.wd, .int .i64 c.hg, .slice dao c.D.length dc, .slice fao c.F.length fc, .int .i64 c.ed] 27); omega, by omega⟩⟩)
  have HAS := hide (chart_asc hok)
  have HID : Hid (∀ i, i < c.F.length → 1 ≤ (c.F.getD i default).1 ∧ (c.F.getD i default).1 ≤ 1000000) := fun i hi => id_bd hok hi
  clear hbx A2
  go_wp2
  obtain ⟨W2, e2⟩ : ∃ z, z = (w1.alloc (.map #[] 0)).alloc (.cells #[.int .i64 c.wd, .int .i64 c.hg, .slice (some ⟨g1, 0, none⟩) c.D.length c.D.length, .slice (some ⟨g2, 0, none⟩) c.F.length c.F.length, .int .i64 c.ed, .map (some w1.heap.size)] 117) := ⟨_, rfl⟩
  rw [← e2] at HS0 ⊢
  clear e2 q3 b3 hmk HO HW HD1 hlt1 hlt2 hg1 hg2 hsw
  obtain ⟨b, eb⟩ : ∃ b, b = w1.heap.size := ⟨_, rfl⟩
  obtain ⟨sh, es⟩ : ∃ s, s = w1.heap.size + 1 := ⟨_, rfl⟩
  rw [← es, ← eb] at HS0 ⊢
  clear eb es
  go_loopg [14] c.F.length (fun gm i wr => ∃ k : Nat, k ≤ c.F.length ∧ gm = c.F.length - k ∧ i = .int .i64 k ∧ Hid (Sh w wr sh g1 b k (.slice (some ⟨g2, 0, none⟩) c.F.length c.F.length) { c with F := c.F.take k }))
  case atStart => exact ⟨0, Nat.zero_le _, rfl, rfl, HS0⟩
  case round =>
    clear HS0
    obtain ⟨k, hk, rfl, rfl, HS⟩ := hrel
    by_cases hkn : k < c.F.length
    · have hki : (k : Int) < c.F.length := by omega
      have hFr := (unhide HF).below (unhide HS).below
      obtain ⟨aq, cq, eq, _, _, hcq⟩ := hFr
      simp only [Value.slice.injEq] at eq
      obtain ⟨rfl, -, rfl⟩ := eq
      obtain ⟨bf, o, f0, f1, f2, f3, f4, e', hc0, hc1, hc2, hc3, hc4, EF⟩ := recFeatureAt hcq hkn
      subst e'
      have hid := unhide HID k hkn
      rw [unhide EF] at hid
      obtain ⟨hid0, hid1⟩ := hid
      dsimp only at hid0 hid1
      have ET : Hid (putF (f0, f1, f2, f3, f4) (c.F.take k) = c.F.take (k + 1)) := by
        show _ = _
        have e : c.F.take (k + 1) = c.F.take k ++ [c.F.getD k default] := by rw [List.take_add_one, List.getElem?_eq_getElem hkn, getD_lt hkn]; rfl
        rw [e, unhide EF]
        refine putF_snoc _ _ ?_
        rw [← unhide EF, ← e]
        exact List.Pairwise.sublist (List.take_sublist _ _) (unhide HAS)
      have HSa := hide ((unhide HS).step (Below.alloc1 wr (.cells #[.int .i64 f0, .int .i64 f1, .int .i64 f2, .int .i64 f3, .string f4] 91)))
      have HBx := hide (ownV_alloc wr #[.int .i64 f0, .int .i64 f1, .int .i64 f2, .int .i64 f3, .string f4] 91)
      have hgf : sh < wr.heap.size ∧ b < wr.heap.size ∧ g1 < wr.heap.size := ⟨(unhide HS).box.lt, (unhide HS).map.lt, (unhide HS).deps.lt⟩
      clear hcq EF HS
      go_wp2_with fail
      obtain ⟨V, eV⟩ : ∃ z, z = wr.alloc (.cells #[.int .i64 f0, .int .i64 f1, .int .i64 f2, .int .i64 f3, .string f4] 91) := ⟨_, rfl⟩
      rw [← eV] at HSa HBx ⊢
      have hgV : wr.heap.size < V.heap.size := (unhide HBx).lt
      clear eV hc0 hc1 hc2 hc3 hc4
      generalize wr.heap.size = gf at *
      obtain ⟨W', hrun, hM', hK⟩ := MapF.put (w := V.drew) (n := k) (b := b) (F := c.F.take k) ((unhide HSa).map) (f0, f1, f2, f3, f4) (by unfold maxLen; omega) (by omega) (by omega)
      have hrun' : (Instr.mapUpdate 115 (.map (some b)) (.int .i64 f0) (.agg #[.int .i64 f0, .int .i64 f1, .int .i64 f2, .int .i64 f3, .string f4])).run Try.prog V.drew = .ok () W' := hrun
      have hBx' : OwnV W' gf [.int .i64 f0, .int .i64 f1, .int .i64 f2, .int .i64 f3, .string f4] := (OwnV.drew (unhide HBx)).kept hK (by omega)
      have hbox' := (OwnV.drew (unhide HSa).box).kept hK (by have := (unhide HSa).ne; omega)
      have hdep' := (OwnV.drew (unhide HSa).deps).kept hK (by have := (unhide HSa).ne; omega)
      have HS' := hide (show Sh w W' sh g1 b (k + 1) (.slice (some ⟨g2, 0, none⟩) c.F.length c.F.length) { c with F := c.F.take (k + 1) } from ⟨(unhide HSa).below.drew.trans (hK.below (by show w.heap.size ≤ V.heap.size; exact (unhide HSa).below.size) (fun x e => by rw [e]; exact (unhide HSa).lo.2.2)), hbox', hdep', by rw [← unhide ET]; exact hM', (unhide HSa).ne, (unhide HSa).lo⟩)
      have c5 := (unhide HSa).box.cell (i := 5) rfl
      have p0 := (unhide HBx).cell (i := 0) rfl
      have p1 := (unhide HBx).cell (i := 1) rfl
      have p2 := (unhide HBx).cell (i := 2) rfl
      have p3 := (unhide HBx).cell (i := 3) rfl
      have p4 := (unhide HBx).cell (i := 4) rfl
      have d5 := hbox'.cell (i := 5) rfl
      have r0 := hBx'.cell (i := 0) rfl
      have r1 := hBx'.cell (i := 1) rfl
      have r2 := hBx'.cell (i := 2) rfl
      have r3 := hBx'.cell (i := 3) rfl
      have r4 := hBx'.cell (i := 4) rfl
      clear hrun hM' hK hBx' hbox' hdep' HSa HBx
      go_region_held3 (fun z => z.cell? ⟨sh, 5, none⟩ = some (.map (some b)) ∧ z.cell? ⟨gf, 0, none⟩ = some (.int .i64 f0) ∧ z.cell? ⟨gf, 1, none⟩ = some (.int .i64 f1) ∧ z.cell? ⟨gf, 2, none⟩ = some (.int .i64 f2) ∧ z.cell? ⟨gf, 3, none⟩ = some (.int .i64 f3) ∧ z.cell? ⟨gf, 4, none⟩ = some (.string f4)) (go_keep) (fail)
      go_wp2
      go_roundg (c.F.length - (k + 1))
      case measure => omega
      case rel => exact ⟨k + 1, by omega, rfl, by go_num, HS'⟩
    · have hkk : k = c.F.length := by omega
      have hki : ¬ (k : Int) < c.F.length := by omega
      rw [hkk, List.take_length] at HS
      clear hkk
      go_wp2
      go_ret
      exact ⟨sh, rfl, g1, b, _, _, _, unhide HS⟩

end Go.Proofs.Ytmpicamenjnkkaa

/- Contracts of the sheet's add. -/
namespace Go.Proofs.Ytmpicamenjnkkaa
open Go.RowKit

def addB (c : Ch) (f : FeatureT) : Bool := !(hasF f.1 c.F || decide (30 ≤ c.F.length) || !featB c.wd c.hg f)

set_option maxRecDepth 10000 in
set_option maxHeartbeats 8000000 in
theorem shAdd_any (w W : World) (s gd b n : Nat) (fv : Value) (c : Ch) (f0 f1 f2 f3 : Int) (f4 : ByteArray) (h : Sh w W s gd b n fv c) (hn : n ≤ 1000) (hw : 1 ≤ c.wd ∧ c.wd ≤ 12) (hh : 1 ≤ c.hg ∧ c.hg ≤ 12) (hf0 : -9223372036854775808 ≤ f0) (hf1 : f0 ≤ 9223372036854775807) :
    Calls Try.prog 82 #[.pointer (some ⟨s, 0, none⟩), vFeature f0 f1 f2 f3 f4] W fun e W' => e = .returned (.bool (addB c (f0, f1, f2, f3, f4))) ∧ Below w.heap.size w W' ∧ (addB c (f0, f1, f2, f3, f4) = true → Sh w W' s gd b (n + 1) fv { c with F := putF (f0, f1, f2, f3, f4) c.F }) := by
  have HS := hide (h.step (Below.alloc1 W (.cells #[.int .i64 f0, .int .i64 f1, .int .i64 f2, .int .i64 f3, .string f4] 91)))
  have HBx := hide (ownV_alloc W #[.int .i64 f0, .int .i64 f1, .int .i64 f2, .int .i64 f3, .string f4] 91)
  have hlt : s < W.heap.size ∧ b < W.heap.size ∧ gd < W.heap.size := ⟨h.box.lt, h.map.lt, h.deps.lt⟩
  clear h
  unfold vFeature
  go_enter Try.func82, Try.ntmps82
  go_wp2_with fail
  obtain ⟨V, eV⟩ : ∃ z, z = W.alloc (.cells #[.int .i64 f0, .int .i64 f1, .int .i64 f2, .int .i64 f3, .string f4] 91) := ⟨_, rfl⟩
  rw [← eV] at HS HBx ⊢
  have hgV : W.heap.size < V.heap.size := (unhide HBx).lt
  clear eV
  generalize W.heap.size = gf at *
  have m5 := (unhide HS).box.cell (i := 5) rfl
  have p0 := (unhide HBx).cell (i := 0) rfl
  have l2 : ∀ o, (Instr.lookup 115 (.map (some b)) (.int .i64 f0) true).run Try.prog (V.alloc o).drew = .ok (.tuple #[vF (gF c.F f0), .bool (hasF f0 c.F)]) (V.alloc o).drew := fun o => MapF.look (((unhide HS).map.step (Below.alloc1 V o)).drewN 1) f0 hf0 hf1
  have l3 : (Instr.lookup 115 (.map (some b)) (.int .i64 f0) true).run Try.prog V.drew = .ok (.tuple #[vF (gF c.F f0), .bool (hasF f0 c.F)]) V.drew := MapF.look ((unhide HS).map.drewN 1) f0 hf0 hf1
  have l4 : ∀ o, (Instr.lookup 115 (.map (some b)) (.int .i64 f0) true).run Try.prog (V.drew.alloc o) = .ok (.tuple #[vF (gF c.F f0), .bool (hasF f0 c.F)]) (V.drew.alloc o) := fun o => MapF.look (((unhide HS).map.drewN 1).step (Below.alloc1 _ o)) f0 hf0 hf1
  have e1 : vF (gF c.F f0) = .agg #[.int .i64 (gF c.F f0).1, .int .i64 (gF c.F f0).2.1, .int .i64 (gF c.F f0).2.2.1, .int .i64 (gF c.F f0).2.2.2.1, .string (gF c.F f0).2.2.2.2] := rfl
  simp only [e1] at l2 l3 l4
  generalize gF c.F f0 = gg at l2 l3 l4
  obtain ⟨g0, g1, g2, g3, g4⟩ := gg
  dsimp only at l2 l3 l4
  clear e1
  go_region_held3 (fun z => z.cell? ⟨s, 5, none⟩ = some (.map (some b)) ∧ z.cell? ⟨gf, 0, none⟩ = some (.int .i64 f0)) (go_keep) (fail)
  all_goals
    obtain ⟨V1, eV, HS1, HB1⟩ : ∃ V1, V1 = (V.alloc (.cells #[.int .i64 g0, .int .i64 g1, .int .i64 g2, .int .i64 g3, .string g4] 91)).drew ∧ Hid (Sh w V1 s gd b n fv c) ∧ Hid (OwnV V1 gf [.int .i64 f0, .int .i64 f1, .int .i64 f2, .int .i64 f3, .string f4]) :=
      ⟨_, rfl, (unhide HS).step (Below.alloc1 V _).drew, (unhide HBx).step (Below.alloc1 V _).drew⟩
    first
      | rw [← eV]
      | (have eV' : V1 = V.drew.alloc (.cells #[.int .i64 g0, .int .i64 g1, .int .i64 g2, .int .i64 g3, .string g4] 91) := eV; rw [← eV'])
    clear eV m5 p0 l2 l3 l4 HS HBx
    have p0 := fun x' : Gr V1 => gr_cell ((unhide HS1).box.cell (i := 0) rfl) x'
    have p1 := fun x' : Gr V1 => gr_cell ((unhide HS1).box.cell (i := 1) rfl) x'
    have p2 := fun x' : Gr V1 => gr_cell ((unhide HS1).box.cell (i := 2) rfl) x'
    have p3 := fun x' : Gr V1 => gr_cell ((unhide HS1).box.cell (i := 3) rfl) x'
    have p4 := fun x' : Gr V1 => gr_cell ((unhide HS1).box.cell (i := 4) rfl) x'
    have p5 := fun x' : Gr V1 => gr_cell ((unhide HS1).box.cell (i := 5) rfl) x'
    have q0 := fun x' : Gr V1 => gr_cell ((unhide HB1).cell (i := 0) rfl) x'
    have q1 := fun x' : Gr V1 => gr_cell ((unhide HB1).cell (i := 1) rfl) x'
    have q2 := fun x' : Gr V1 => gr_cell ((unhide HB1).cell (i := 2) rfl) x'
    have q3 := fun x' : Gr V1 => gr_cell ((unhide HB1).cell (i := 3) rfl) x'
    have q4 := fun x' : Gr V1 => gr_cell ((unhide HB1).cell (i := 4) rfl) x'
    have hlen := fun (x' : Gr V1) ty => ((unhide HS1).map.step x'.ok).len ty
    have S1 := hide fun x' : Gr V1 => featureOk_any c.wd c.hg c.ed (.slice (some ⟨gd, 0, none⟩) c.D.length c.D.length) fv f0 f1 f2 f3 f4 x'.val hw.1 hw.2 hh.1 hh.2
    unfold vChart vFeature at S1
    have gsome := gr_some V1
    cases hh1 : hasF f0 c.F with
    | true =>
      have HN : Hid (addB c (f0, f1, f2, f3, f4) = false) := by show _ = _; unfold addB; dsimp only; rw [hh1]; rfl
      go_wp2_with fail
      refine wp_region_grown (by kernel_rfl) (by kernel_rfl) ?_
      repeat (go_big_quiet_step (fail))
      refine wpQuiet_nil ?_
      intro w1 hw1
      obtain ⟨z', hz⟩ := hw1
      have hb1 : Below V1.heap.size V1 w1 := hz ▸ z'.ok
      clear hz gsome
      have HW := hide (Below.step (unhide HS1).below hb1)
      go_wp2
      go_ret
      exact ⟨ret_bool (unhide HN).symm, unhide HW, fun h => by rw [unhide HN] at h; cases h⟩
    | false =>
    by_cases h30 : 30 ≤ c.F.length
    · have HN : Hid (addB c (f0, f1, f2, f3, f4) = false) := by show _ = _; unfold addB; dsimp only; rw [decide_eq_true h30]; simp
      have h30i : (30 : Int) ≤ c.F.length := by omega
      go_wp2_with fail
      refine wp_region_grown (by kernel_rfl) (by kernel_rfl) ?_
      repeat (go_big_quiet_step (fail))
      refine wpQuiet_nil ?_
      intro w1 hw1
      obtain ⟨z', hz⟩ := hw1
      have hb1 : Below V1.heap.size V1 w1 := hz ▸ z'.ok
      clear hz gsome
      have HW := hide (Below.step (unhide HS1).below hb1)
      go_wp2
      go_ret
      exact ⟨ret_bool (unhide HN).symm, unhide HW, fun h => by rw [unhide HN] at h; cases h⟩
    have h30i : ¬ (30 : Int) ≤ c.F.length := by omega
    have d30 : decide ((30 : Int) ≤ (c.F.length : Int)) = false := decide_eq_false h30i
    have d31 : decide (30 ≤ c.F.length) = false := decide_eq_false h30
    have d32 : decide ((c.F.length : Int) < 30) = true := decide_eq_true (by omega)
    cases hfe : featB c.wd c.hg (f0, f1, f2, f3, f4) with
    | false =>
      have HN : Hid (addB c (f0, f1, f2, f3, f4) = false) := by show _ = _; unfold addB; rw [hfe]; simp
      rw [hfe] at S1
      go_wp2_with fail
      refine wp_region_grown (by kernel_rfl) (by kernel_rfl) ?_
      repeat (go_big_quiet_step (fail))
      go_big_quiet_want
      go_big_quiet_op
      go_big_quiet_call (exact calls_grown (unhide S1 _))
      repeat (go_big_quiet_step (fail))
      refine wpQuiet_nil ?_
      intro w1 hw1
      obtain ⟨z', hz⟩ := hw1
      have hb1 : Below V1.heap.size V1 w1 := hz ▸ z'.ok
      clear hz gsome
      have HW := hide (Below.step (unhide HS1).below hb1)
      go_wp2
      go_ret
      exact ⟨ret_bool (unhide HN).symm, unhide HW, fun h => by rw [unhide HN] at h; cases h⟩
    | true =>
      have HN : Hid (addB c (f0, f1, f2, f3, f4) = true) := by show _ = _; unfold addB; dsimp only; rw [hfe, hh1, decide_eq_false h30]; rfl
      rw [hfe] at S1
      go_wp2_with fail
      refine wp_region_grown (by kernel_rfl) (by kernel_rfl) ?_
      repeat (go_big_quiet_step (fail))
      go_big_quiet_want
      go_big_quiet_op
      go_big_quiet_call (exact calls_grown (unhide S1 _))
      repeat (go_big_quiet_step (fail))
      refine wpQuiet_nil ?_
      intro w1 hw1
      obtain ⟨z', hz⟩ := hw1
      have hb1 : Below V1.heap.size V1 w1 := hz ▸ z'.ok
      clear hz gsome
      clear p0 p1 p2 p3 p4 p5 q0 q1 q2 q3 q4 hlen S1
      replace HS1 := hide ((unhide HS1).step hb1)
      replace HB1 := hide ((unhide HB1).step hb1)
      clear hb1 hgV hh1 h30 h30i hfe d30 d31 d32
      obtain ⟨W', hrun, hM', hK⟩ := MapF.put (w := w1.drew) (n := n) (b := b) (F := c.F) ((unhide HS1).map.drewN 1) (f0, f1, f2, f3, f4) (by unfold maxLen; omega) hf0 hf1
      have hrun' : (Instr.mapUpdate 115 (.map (some b)) (.int .i64 f0) (.agg #[.int .i64 f0, .int .i64 f1, .int .i64 f2, .int .i64 f3, .string f4])).run Try.prog w1.drew = .ok () W' := hrun
      have hBx' : OwnV W' gf [.int .i64 f0, .int .i64 f1, .int .i64 f2, .int .i64 f3, .string f4] := (OwnV.drew (unhide HB1)).kept hK (by omega)
      have hbox' := (OwnV.drew (unhide HS1).box).kept hK (by have := (unhide HS1).ne; omega)
      have hdep' := (OwnV.drew (unhide HS1).deps).kept hK (by have := (unhide HS1).ne; omega)
      have HS' := hide (show Sh w W' s gd b (n + 1) fv { c with F := putF (f0, f1, f2, f3, f4) c.F } from ⟨(unhide HS1).below.drew.trans (hK.below (by show w.heap.size ≤ w1.heap.size; exact (unhide HS1).below.size) (fun x e => by rw [e]; exact (unhide HS1).lo.2.2)), hbox', hdep', hM', (unhide HS1).ne, (unhide HS1).lo⟩)
      have c5 := (unhide HS1).box.cell (i := 5) rfl
      have p0 := (unhide HB1).cell (i := 0) rfl
      have p1 := (unhide HB1).cell (i := 1) rfl
      have p2 := (unhide HB1).cell (i := 2) rfl
      have p3 := (unhide HB1).cell (i := 3) rfl
      have p4 := (unhide HB1).cell (i := 4) rfl
      have d5 := hbox'.cell (i := 5) rfl
      have r0 := hBx'.cell (i := 0) rfl
      have r1 := hBx'.cell (i := 1) rfl
      have r2 := hBx'.cell (i := 2) rfl
      have r3 := hBx'.cell (i := 3) rfl
      have r4 := hBx'.cell (i := 4) rfl
      clear hrun hM' hK hBx' hbox' hdep' HS1 HB1
      go_wp2_with fail
      go_region_held3 (fun z => z.cell? ⟨s, 5, none⟩ = some (.map (some b)) ∧ z.cell? ⟨gf, 0, none⟩ = some (.int .i64 f0) ∧ z.cell? ⟨gf, 1, none⟩ = some (.int .i64 f1) ∧ z.cell? ⟨gf, 2, none⟩ = some (.int .i64 f2) ∧ z.cell? ⟨gf, 3, none⟩ = some (.int .i64 f3) ∧ z.cell? ⟨gf, 4, none⟩ = some (.string f4)) (go_keep) (fail)
      go_wp2
      go_ret
      exact ⟨ret_bool (unhide HN).symm, (unhide HS').below, fun _ => unhide HS'⟩

end Go.Proofs.Ytmpicamenjnkkaa

/- Contracts of the sheet's drop, move and sound. -/
namespace Go.Proofs.Ytmpicamenjnkkaa
open Go.RowKit

theorem own_ints_set {W : World} {g j : Nat} {D : List Int} {d : Int} (h : OwnV W g (ints D)) (hj : j < D.length) : OwnV (W.setCell ⟨g, j, none⟩ (.int .i64 d)) g (ints (D.set j d)) := by
  have := h.set j (.int .i64 d) (by rw [ints_length]; exact hj)
  have e : (ints D).set j (.int .i64 d) = ints (D.set j d) := by unfold ints; rw [List.map_set]
  rwa [e] at this
theorem Sh.far {w W : World} {s gd b n : Nat} {fv : Value} {c : Ch} (h : Sh w W s gd b n fv c) {g : Nat} (i : Nat) (u : Value) (h1 : s ≠ g) (h2 : gd ≠ g) (h3 : b ≠ g) (h4 : w.heap.size ≤ g) : Sh w (W.setCell ⟨g, i, none⟩ u) s gd b n fv c :=
  ⟨h.below.setCell (p := ⟨g, i, none⟩) h4 u, farN h.box h1 i u, farN h.deps h2 i u, World.ownsMap.setCell h.map (a := ⟨g, i, none⟩) h3 u, h.ne, h.lo⟩

set_option maxRecDepth 10000 in
set_option maxHeartbeats 8000000 in
theorem shDrop_any (w W : World) (s gd b n : Nat) (fv : Value) (c : Ch) (id : Int) (h : Sh w W s gd b n fv c) (hf0 : -9223372036854775808 ≤ id) (hf1 : id ≤ 9223372036854775807) :
    Calls Try.prog 83 #[.pointer (some ⟨s, 0, none⟩), .int .i64 id] W fun e W' => e = .returned (.bool (hasF id c.F)) ∧ Sh w W' s gd b n fv { c with F := delF id c.F } := by
  have HS := hide h
  have m5 := h.box.cell (i := 5) rfl
  have n5 : ∀ o, (W.alloc o).cell? ⟨s, 5, none⟩ = some (.map (some b)) := fun o => wcell3 (h.box.cell (i := 5) rfl) (Below.alloc1 W o)
  clear h
  have l2 : ∀ o, (Instr.lookup 115 (.map (some b)) (.int .i64 id) true).run Try.prog (W.alloc o).drew = .ok (.tuple #[vF (gF c.F id), .bool (hasF id c.F)]) (W.alloc o).drew := fun o => MapF.look (((unhide HS).map.step (Below.alloc1 W o)).drewN 1) id hf0 hf1
  have l3 : (Instr.lookup 115 (.map (some b)) (.int .i64 id) true).run Try.prog W.drew = .ok (.tuple #[vF (gF c.F id), .bool (hasF id c.F)]) W.drew := MapF.look ((unhide HS).map.drewN 1) id hf0 hf1
  have l4 : ∀ o, (Instr.lookup 115 (.map (some b)) (.int .i64 id) true).run Try.prog (W.drew.alloc o) = .ok (.tuple #[vF (gF c.F id), .bool (hasF id c.F)]) (W.drew.alloc o) := fun o => MapF.look (((unhide HS).map.drewN 1).step (Below.alloc1 _ o)) id hf0 hf1
  have l5 : (Instr.lookup 115 (.map (some b)) (.int .i64 id) true).run Try.prog W = .ok (.tuple #[vF (gF c.F id), .bool (hasF id c.F)]) W := MapF.look (unhide HS).map id hf0 hf1
  have l6 : ∀ o, (Instr.lookup 115 (.map (some b)) (.int .i64 id) true).run Try.prog (W.alloc o) = .ok (.tuple #[vF (gF c.F id), .bool (hasF id c.F)]) (W.alloc o) := fun o => MapF.look ((unhide HS).map.step (Below.alloc1 W o)) id hf0 hf1
  have e1 : vF (gF c.F id) = .agg #[.int .i64 (gF c.F id).1, .int .i64 (gF c.F id).2.1, .int .i64 (gF c.F id).2.2.1, .int .i64 (gF c.F id).2.2.2.1, .string (gF c.F id).2.2.2.2] := rfl
  simp only [e1] at l2 l3 l4 l5 l6
  generalize gF c.F id = gg at l2 l3 l4 l5 l6
  obtain ⟨g0, g1, g2, g3, g4⟩ := gg
  dsimp only at l2 l3 l4 l5 l6
  clear e1
  have HSa := (unhide HS).step (Below.alloc1 W (.cells #[.int .i64 g0, .int .i64 g1, .int .i64 g2, .int .i64 g3, .string g4] 91))
  obtain ⟨W', hdel, hM, hK⟩ := MapF.del HSa.map id hf0 hf1
  have HS' := hide (show Sh w W' s gd b n fv { c with F := delF id c.F } from ⟨HSa.below.trans (hK.below HSa.below.size (fun x e => by rw [e]; exact HSa.lo.2.2)), HSa.box.kept hK (fun e => HSa.ne.2.1 e), HSa.deps.kept hK (fun e => HSa.ne.2.2 e), hM, HSa.ne, HSa.lo⟩)
  clear HSa hM hK
  generalize hasF id c.F = hs at l2 l3 l4 l5 l6 ⊢
  go_enter Try.func83, Try.ntmps83
  go_wp2
  go_ret
  exact ⟨rfl, unhide HS'⟩

set_option maxRecDepth 10000 in
set_option maxHeartbeats 8000000 in
theorem shMove_any (w W : World) (s gd b n : Nat) (fv : Value) (c : Ch) (id x y : Int) (h : Sh w W s gd b n fv c) (hn : n ≤ 1000) (hw : 1 ≤ c.wd ∧ c.wd ≤ 12) (hh : 1 ≤ c.hg ∧ c.hg ≤ 12) (hf0 : -9223372036854775808 ≤ id) (hf1 : id ≤ 9223372036854775807) :
    Calls Try.prog 84 #[.pointer (some ⟨s, 0, none⟩), .int .i64 id, .int .i64 x, .int .i64 y] W fun e W' => e = .returned (.bool (hasF id c.F && placeB c.wd c.hg x y)) ∧ Below w.heap.size w W' ∧ ((hasF id c.F && placeB c.wd c.hg x y) = true → Sh w W' s gd b (n + 1) fv { c with F := putF (id, (gF c.F id).2.1, x, y, (gF c.F id).2.2.2.2) c.F }) := by
  have HS := hide h
  have m5 := h.box.cell (i := 5) rfl
  have n5 : ∀ o, (W.alloc o).cell? ⟨s, 5, none⟩ = some (.map (some b)) := fun o => wcell3 (h.box.cell (i := 5) rfl) (Below.alloc1 W o)
  clear h
  have l2 : ∀ o, (Instr.lookup 115 (.map (some b)) (.int .i64 id) true).run Try.prog (W.alloc o).drew = .ok (.tuple #[vF (gF c.F id), .bool (hasF id c.F)]) (W.alloc o).drew := fun o => MapF.look (((unhide HS).map.step (Below.alloc1 W o)).drewN 1) id hf0 hf1
  have l3 : (Instr.lookup 115 (.map (some b)) (.int .i64 id) true).run Try.prog W.drew = .ok (.tuple #[vF (gF c.F id), .bool (hasF id c.F)]) W.drew := MapF.look ((unhide HS).map.drewN 1) id hf0 hf1
  have l4 : ∀ o, (Instr.lookup 115 (.map (some b)) (.int .i64 id) true).run Try.prog (W.drew.alloc o) = .ok (.tuple #[vF (gF c.F id), .bool (hasF id c.F)]) (W.drew.alloc o) := fun o => MapF.look (((unhide HS).map.drewN 1).step (Below.alloc1 _ o)) id hf0 hf1
  have l5 : (Instr.lookup 115 (.map (some b)) (.int .i64 id) true).run Try.prog W = .ok (.tuple #[vF (gF c.F id), .bool (hasF id c.F)]) W := MapF.look (unhide HS).map id hf0 hf1
  have l6 : ∀ o, (Instr.lookup 115 (.map (some b)) (.int .i64 id) true).run Try.prog (W.alloc o) = .ok (.tuple #[vF (gF c.F id), .bool (hasF id c.F)]) (W.alloc o) := fun o => MapF.look ((unhide HS).map.step (Below.alloc1 W o)) id hf0 hf1
  have e1 : vF (gF c.F id) = .agg #[.int .i64 (gF c.F id).1, .int .i64 (gF c.F id).2.1, .int .i64 (gF c.F id).2.2.1, .int .i64 (gF c.F id).2.2.2.1, .string (gF c.F id).2.2.2.2] := rfl
  simp only [e1] at l2 l3 l4 l5 l6
  have EG : Hid (gF c.F id = gF c.F id) := rfl
  obtain ⟨gg, eg⟩ : ∃ gg, gg = gF c.F id := ⟨_, rfl⟩
  rw [← eg] at l3 l5 ⊢
  simp only [← eg] at l2 l4 l6
  clear EG
  have EG := hide eg
  obtain ⟨g0, g1, g2, g3, g4⟩ := gg
  dsimp only at l2 l3 l4 l5 l6 ⊢
  clear e1 eg
  have n0 : ∀ o, (W.alloc o).cell? ⟨s, 0, none⟩ = some (.int .i64 c.wd) := fun o => wcell3 ((unhide HS).box.cell (i := 0) rfl) (Below.alloc1 W o)
  have n1 : ∀ o, (W.alloc o).cell? ⟨s, 1, none⟩ = some (.int .i64 c.hg) := fun o => wcell3 ((unhide HS).box.cell (i := 1) rfl) (Below.alloc1 W o)
  have n2 : ∀ o, (W.alloc o).cell? ⟨s, 2, none⟩ = some (.slice (some ⟨gd, 0, none⟩) c.D.length c.D.length) := fun o => wcell3 ((unhide HS).box.cell (i := 2) rfl) (Below.alloc1 W o)
  have n3 : ∀ o, (W.alloc o).cell? ⟨s, 3, none⟩ = some (fv) := fun o => wcell3 ((unhide HS).box.cell (i := 3) rfl) (Below.alloc1 W o)
  have n4 : ∀ o, (W.alloc o).cell? ⟨s, 4, none⟩ = some (.int .i64 c.ed) := fun o => wcell3 ((unhide HS).box.cell (i := 4) rfl) (Below.alloc1 W o)
  have HP := hide fun V => isPlace_any c.wd c.hg c.ed x y (.slice (some ⟨gd, 0, none⟩) c.D.length c.D.length) fv V (by omega) (by omega) (by omega) (by omega)
  unfold vChart at HP
  have HSa := hide ((unhide HS).step (Below.alloc1 W (.cells #[.int .i64 g0, .int .i64 g1, .int .i64 g2, .int .i64 g3, .string g4] 91)))
  have HBx := hide (ownV_alloc W #[.int .i64 g0, .int .i64 g1, .int .i64 g2, .int .i64 g3, .string g4] 91)
  have hlt : s < W.heap.size ∧ b < W.heap.size ∧ gd < W.heap.size := ⟨(unhide HS).box.lt, (unhide HS).map.lt, (unhide HS).deps.lt⟩
  cases hh1 : hasF id c.F with
  | false =>
    rw [hh1] at l3 l5
    simp only [hh1] at l2 l4 l6
    have HW := hide (unhide HSa).below
    go_enter Try.func84, Try.ntmps84
    go_wp2
    go_ret
    first | exact ⟨rfl, unhide HW⟩ | exact ⟨rfl, unhide HW, fun h => by cases h⟩
  | true =>
  rw [hh1] at l3 l5
  simp only [hh1] at l2 l4 l6
  have hg0 : Hid (g0 = id) := by
    show _ = _
    have h0 : 0 ≤ findOf c.F id := of_decide_eq_true ((findOf_has id c.F).trans hh1)
    have := (find_getD id c.F h0).1
    rw [← gF_found h0, ← unhide EG] at this
    exact this
  have hge : w.heap.size ≤ W.heap.size := (unhide HS).below.size
  obtain rfl := unhide hg0
  clear hg0
  go_enter Try.func84, Try.ntmps84
  go_wp2_with fail
  refine (unhide HP _).mono ?_
  rintro e V1 ⟨rfl, hb⟩
  obtain ⟨V, eV⟩ : ∃ z, z = W.alloc (.cells #[.int .i64 g0, .int .i64 g1, .int .i64 g2, .int .i64 g3, .string g4] 91) := ⟨_, rfl⟩
  rw [← eV] at HSa HBx hb
  clear eV l2 l3 l4 l5 l6 n0 n1 n2 n3 n4 n5 m5 HP HS
  generalize W.heap.size = gf at *
  replace HSa := hide ((unhide HSa).step hb)
  replace HBx := hide ((unhide HBx).step hb)
  clear hb
  cases hpl : placeB c.wd c.hg x y with
  | false =>
    have HW := hide (unhide HSa).below
    go_wp2
    go_ret
    exact ⟨ret_bool (by rw [hpl]; rfl), unhide HW, fun h => by rw [hpl] at h; cases h⟩
  | true =>
  have p2 := (unhide HBx).cell (i := 2) rfl
  have p3 := (unhide HBx).cell (i := 3) rfl
  have pf := (unhide HBx).frozen
  go_wp2_with fail
  clear p2 p3 pf
  replace HBx := hide (((unhide HBx).set 2 (.int .i64 x) (by simp)).set 3 (.int .i64 y) (by simp))
  replace HSa := hide (((unhide HSa).far (g := gf) 2 (.int .i64 x) (by omega) (by omega) (by omega) hge).far (g := gf) 3 (.int .i64 y) (by omega) (by omega) (by omega) hge)
  obtain ⟨w1, e1⟩ : ∃ z, z = (V1.setCell ⟨gf, 2, none⟩ (.int .i64 x)).setCell ⟨gf, 3, none⟩ (.int .i64 y) := ⟨_, rfl⟩
  rw [← e1] at HBx HSa ⊢
  clear e1
  have HBx1 : Hid (OwnV w1 gf [.int .i64 g0, .int .i64 g1, .int .i64 x, .int .i64 y, .string g4]) := unhide HBx
  obtain ⟨W', hrun, hM', hK⟩ := MapF.put (w := w1.drew) (n := n) (b := b) (F := c.F) ((unhide HSa).map.drewN 1) (g0, g1, x, y, g4) (by unfold maxLen; omega) hf0 hf1
  have hrun' : (Instr.mapUpdate 115 (.map (some b)) (.int .i64 g0) (.agg #[.int .i64 g0, .int .i64 g1, .int .i64 x, .int .i64 y, .string g4])).run Try.prog w1.drew = .ok () W' := hrun
  have hBx' : OwnV W' gf [.int .i64 g0, .int .i64 g1, .int .i64 x, .int .i64 y, .string g4] := (OwnV.drew (unhide HBx1)).kept hK (by omega)
  have hbox' := (OwnV.drew (unhide HSa).box).kept hK (by have := (unhide HSa).ne; omega)
  have hdep' := (OwnV.drew (unhide HSa).deps).kept hK (by have := (unhide HSa).ne; omega)
  have HS' := hide (show Sh w W' s gd b (n + 1) fv { c with F := putF (g0, g1, x, y, g4) c.F } from ⟨(unhide HSa).below.drew.trans (hK.below (by show w.heap.size ≤ w1.heap.size; exact (unhide HSa).below.size) (fun x e => by rw [e]; exact (unhide HSa).lo.2.2)), hbox', hdep', hM', (unhide HSa).ne, (unhide HSa).lo⟩)
  have c5 := (unhide HSa).box.cell (i := 5) rfl
  have p0 := (unhide HBx1).cell (i := 0) rfl
  have p1 := (unhide HBx1).cell (i := 1) rfl
  have p2 := (unhide HBx1).cell (i := 2) rfl
  have p3 := (unhide HBx1).cell (i := 3) rfl
  have p4 := (unhide HBx1).cell (i := 4) rfl
  have d5 := hbox'.cell (i := 5) rfl
  have r0 := hBx'.cell (i := 0) rfl
  have r1 := hBx'.cell (i := 1) rfl
  have r2 := hBx'.cell (i := 2) rfl
  have r3 := hBx'.cell (i := 3) rfl
  have r4 := hBx'.cell (i := 4) rfl
  clear hrun hM' hK hBx' hbox' hdep' HSa HBx HBx1
  go_region_held3 (fun z => z.cell? ⟨s, 5, none⟩ = some (.map (some b)) ∧ z.cell? ⟨gf, 0, none⟩ = some (.int .i64 g0) ∧ z.cell? ⟨gf, 1, none⟩ = some (.int .i64 g1) ∧ z.cell? ⟨gf, 2, none⟩ = some (.int .i64 x) ∧ z.cell? ⟨gf, 3, none⟩ = some (.int .i64 y) ∧ z.cell? ⟨gf, 4, none⟩ = some (.string g4)) (go_keep) (fail)
  go_wp2
  go_ret
  exact ⟨ret_bool (by rw [hpl]; rfl), (unhide HS').below, fun _ => unhide HS'⟩

set_option maxRecDepth 10000 in
set_option maxHeartbeats 8000000 in
theorem shSound_any (w W : World) (s gd b n : Nat) (fv : Value) (c : Ch) (x y d : Int) (h : Sh w W s gd b n fv c) (hw : 1 ≤ c.wd ∧ c.wd ≤ 12) (hh : 1 ≤ c.hg ∧ c.hg ≤ 12) (hl : (c.D.length : Int) = c.wd * c.hg) :
    Calls Try.prog 85 #[.pointer (some ⟨s, 0, none⟩), .int .i64 x, .int .i64 y, .int .i64 d] W fun e W' => e = .returned (.bool (placeB c.wd c.hg x y && inB d (-1000) 10000)) ∧ Below w.heap.size w W' ∧ ((placeB c.wd c.hg x y && inB d (-1000) 10000) = true → Sh w W' s gd b n fv { c with D := c.D.set (y * c.wd + x).toNat d }) := by
  have HS := hide h
  have p0 := h.box.cell (i := 0) rfl
  have p1 := h.box.cell (i := 1) rfl
  have p2 := h.box.cell (i := 2) rfl
  have p3 := h.box.cell (i := 3) rfl
  have p4 := h.box.cell (i := 4) rfl
  clear h
  have HP := hide fun V => isPlace_any c.wd c.hg c.ed x y (.slice (some ⟨gd, 0, none⟩) c.D.length c.D.length) fv V (by omega) (by omega) (by omega) (by omega)
  unfold vChart at HP
  go_enter Try.func85, Try.ntmps85
  go_wp2_with fail
  refine (unhide HP _).mono ?_
  rintro e V1 ⟨rfl, hb⟩
  replace HS := hide ((unhide HS).step hb)
  clear hb HP p0 p1 p2 p3 p4
  cases hpl : placeB c.wd c.hg x y with
  | false =>
    have HW := hide (unhide HS).below
    go_wp2
    go_ret
    exact ⟨ret_bool (by rw [hpl]; rfl), unhide HW, fun h => by rw [hpl] at h; cases h⟩
  | true =>
  have HL := hide fun V => depthOk_any d V
  cases hin : inB d (-1000) 10000 with
  | false =>
    rw [hin] at HL
    have HW := hide (unhide HS).below
    go_wp2_with (go_at_call 88; refine (unhide HL _).mono ?_; rintro e w' ⟨rfl, rfl⟩)
    go_ret
    exact ⟨ret_bool (by rw [hpl, hin]; rfl), unhide HW, fun h => by rw [hpl, hin] at h; cases h⟩
  | true =>
  rw [hin] at HL
  have hD := (unhide HS).deps
  obtain ⟨hx0, hx1, hy0, hy1⟩ := place_bd hpl
  have hq := place_lt hw.1 hw.2 hh.1 hh.2 hx0 hx1 hy0 hy1
  obtain ⟨yw, eyw⟩ : ∃ z, z = y * c.wd := ⟨_, rfl⟩
  rw [← eyw, ← hl] at hq
  obtain ⟨hq0, hq1, hq2⟩ := hq
  obtain ⟨j, ej⟩ := Int.eq_ofNat_of_zero_le (show 0 ≤ yw + x by omega)
  have i1 : IntKind.i64.wrap (y * c.wd) = yw := by rw [← eyw, IntKind.wrap_i64]; omega
  have i2 : IntKind.i64.wrap (yw + x) = (j : Int) := by rw [IntKind.wrap_i64]; omega
  have EJ : Hid ((y * c.wd + x).toNat = j) := by show _ = _; rw [← eyw, ej, Int.toNat_natCast]
  have HPO := hide fun V => placeOf_any c.wd c.hg c.ed x y yw j (.slice (some ⟨gd, 0, none⟩) c.D.length c.D.length) fv V i1 i2
  unfold vChart at HPO
  have hji : (j : Int) < c.D.length := by omega
  have hjn : j < c.D.length := by omega
  have p0 := (unhide HS).box.cell (i := 0) rfl
  have p1 := (unhide HS).box.cell (i := 1) rfl
  have p2 := (unhide HS).box.cell (i := 2) rfl
  have p3 := (unhide HS).box.cell (i := 3) rfl
  have p4 := (unhide HS).box.cell (i := 4) rfl
  clear eyw ej hl i1 i2 hD
  go_wp2_with (go_at_call 88; refine (unhide HL _).mono ?_; rintro e w' ⟨rfl, h9⟩; have h8 := h9.symm; subst h8; clear h9)
  have hne := (unhide HS).ne
  have hn1 : ¬ s = gd := hne.1
  have hn2 : ¬ gd = s := fun e => hne.1 e.symm
  go_region_held3 (fun z => z.cell? ⟨s, 0, none⟩ = some (.int .i64 c.wd) ∧ z.cell? ⟨s, 1, none⟩ = some (.int .i64 c.hg) ∧ z.cell? ⟨s, 2, none⟩ = some (.slice (some ⟨gd, 0, none⟩) c.D.length c.D.length) ∧ z.cell? ⟨s, 3, none⟩ = some fv ∧ z.cell? ⟨s, 4, none⟩ = some (.int .i64 c.ed)) (go_keep) (first | (go_at_call 54; refine (unhide HPO _).mono ?_; rintro e wt ⟨rfl, hb⟩; have hb' : Below w'.heap.size w' wt := ⟨hb.os, hb.tape, hb.output, hb.size, hb.block⟩; have HS2 := hide ((unhide HS).step hb'); clear hb hb'; have f0 := (unhide HS2).box.cell (i := 0) rfl; have f1 := (unhide HS2).box.cell (i := 1) rfl; have f2 := (unhide HS2).box.cell (i := 2) rfl; have f3 := (unhide HS2).box.cell (i := 3) rfl; have f4 := (unhide HS2).box.cell (i := 4) rfl; have f5 := (unhide HS2).deps.cell (i := j) (ints_get c.D hjn); have f6 := (unhide HS2).deps.frozen j))
  have HS3 := hide (show Sh w (wt.setCell ⟨gd, j, none⟩ (.int .i64 d)) s gd b n fv { c with D := c.D.set j d } from ⟨(unhide HS2).below.setCell (p := ⟨gd, j, none⟩) (unhide HS2).lo.2.1 _, by rw [List.length_set]; exact farN (unhide HS2).box hn1 j _, own_ints_set (unhide HS2).deps hjn, World.ownsMap.setCell (unhide HS2).map (a := ⟨gd, j, none⟩) (fun e => hne.2.2 e.symm) _, hne, (unhide HS2).lo⟩)
  go_wp2
  go_ret
  exact ⟨ret_bool (by rw [hpl, hin]; rfl), (unhide HS3).below, fun _ => by rw [unhide EJ]; exact unhide HS3⟩

end Go.Proofs.Ytmpicamenjnkkaa
