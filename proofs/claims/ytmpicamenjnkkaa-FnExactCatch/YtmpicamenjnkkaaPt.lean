/- Laid together out of: CatP, CatI, ChM, ChN. -/
import Derived.Test.YtmpicamenjnkkaaPs
import Derived.Test.YtmpicamenjnkkaaPk

/- Catching up by deleting: the updates that wait, and their places, as rows that lose one element. Mathematics and words; no statement about the program stands here. -/
namespace Go.Proofs.Ytmpicamenjnkkaa
open Go.RowKit

theorem filter_at {und : List Nat} (hnd : und.Nodup) {k : Nat} (hk : k < und.length) : und.filter (fun r => decide (r ≠ und[k])) = und.take k ++ und.drop (k + 1) := by
  have e : und = und.take k ++ und[k] :: und.drop (k + 1) := by
    rw [List.getElem_cons_drop, List.take_append_drop]
  generalize und[k] = x at *
  have h2 := hnd
  rw [e, List.nodup_append] at h2
  obtain ⟨h3, h4, h5⟩ := h2
  rw [List.nodup_cons] at h4
  conv => lhs; rw [e]
  rw [List.filter_append, List.filter_cons]
  have a1 : (und.take k).filter (fun r => decide (r ≠ x)) = und.take k := by
    rw [List.filter_eq_self]
    intro y hy
    have := h5 y hy x (by simp)
    simpa using this
  have a2 : (und.drop (k + 1)).filter (fun r => decide (r ≠ x)) = und.drop (k + 1) := by
    rw [List.filter_eq_self]
    intro y hy
    simp only [decide_eq_true_eq]
    exact fun hh => h4.1 (hh ▸ hy)
  rw [a1, a2]
  simp
/-- The updates that wait. -/
def wl (L : List UpT) (und : List Nat) : List UpT := und.map fun i => L.getD i default
theorem wl_len (L : List UpT) (und : List Nat) : (wl L und).length = und.length := by simp [wl]
theorem wl_get (L : List UpT) {und : List Nat} {k : Nat} (hk : k < und.length) : (wl L und).getD k default = L.getD (und.getD k 0) default := by
  simp [wl, List.getD, List.getElem?_eq_getElem hk]
theorem okAt_wl (d : Ch) (L : List UpT) {und : List Nat} {k : Nat} (hk : k < und.length) : okAt d (wl L und) k = okAt d L (und.getD k 0) := by
  unfold okAt
  rw [wl_get L hk]
theorem und_map (und : List Nat) : (List.range und.length).map (fun k => und.getD k 0) = und := by
  apply List.ext_getElem?
  intro i
  by_cases h : i < und.length
  · simp [h, List.getD]
  · simp [h]
theorem find_wl (d : Ch) (L : List UpT) (und : List Nat) : und.find? (okAt d L) = ((List.range (wl L und).length).find? (okAt d (wl L und))).map (fun k => und.getD k 0) := by
  conv => lhs; rw [← und_map und]
  rw [List.find?_map, wl_len]
  congr 1
  have : ∀ n, n ≤ und.length → (List.range n).find? (okAt d L ∘ fun k => und.getD k 0) = (List.range n).find? (okAt d (wl L und)) := by
    intro n
    induction n with
    | zero => intro _; rfl
    | succ n ih =>
      intro hn
      rw [List.range_succ, List.find?_append, List.find?_append, ih (by omega)]
      simp only [List.find?_cons, List.find?_nil, Function.comp, okAt_wl d L (show n < und.length by omega)]
  exact this _ (Nat.le_refl _)

/-- The cells of the updates at these places, two each, as f has them. -/
def cs2 (f : Nat → Value) (und : List Nat) : List Value := und.flatMap fun i => [f (i * 2), f (i * 2 + 1)]
theorem cs2_len (f : Nat → Value) : ∀ und, (cs2 f und).length = und.length * 2
  | [] => rfl
  | i :: und => by
    have := cs2_len f und
    unfold cs2 at *
    simp only [List.flatMap_cons, List.length_append, List.length_cons, List.length_nil, this]
    omega
theorem cs2_app (f : Nat → Value) (a b : List Nat) : cs2 f (a ++ b) = cs2 f a ++ cs2 f b := by simp [cs2]
theorem cs2_del (f : Nat → Value) (und : List Nat) {k : Nat} (hk : k < und.length) : (cs2 f und).take (k * 2) ++ (cs2 f und).drop ((k + 1) * 2) = cs2 f (und.take k ++ und.drop (k + 1)) := by
  have e1 : cs2 f und = cs2 f (und.take k) ++ cs2 f (und.drop k) := by rw [← cs2_app, List.take_append_drop]
  have e2 : cs2 f und = cs2 f (und.take (k + 1)) ++ cs2 f (und.drop (k + 1)) := by rw [← cs2_app, List.take_append_drop]
  have h1 : (cs2 f und).take (k * 2) = cs2 f (und.take k) := by
    rw [e1]
    exact List.take_left' (by rw [cs2_len, List.length_take]; congr 1; omega)
  have h2 : (cs2 f und).drop ((k + 1) * 2) = cs2 f (und.drop (k + 1)) := by
    conv => lhs; rw [e2]
    exact List.drop_left' (by rw [cs2_len, List.length_take]; congr 1; omega)
  rw [h1, h2, ← cs2_app]
theorem cs2_get (f : Nat → Value) : ∀ (und : List Nat) (j : Nat), j < und.length → (cs2 f und)[j * 2]? = some (f (und.getD j 0 * 2)) ∧ (cs2 f und)[j * 2 + 1]? = some (f (und.getD j 0 * 2 + 1))
  | [], j, h => by simp at h
  | i :: und, 0, _ => by simp [cs2]
  | i :: und, j + 1, h => by
    have ih := cs2_get f und j (by simpa using h)
    unfold cs2 at *
    simp only [List.flatMap_cons, List.cons_append, List.nil_append, List.getD_cons_succ]
    rw [show (j + 1) * 2 = j * 2 + 1 + 1 by omega, List.getElem?_cons_succ, List.getElem?_cons_succ, show j * 2 + 1 + 1 + 1 = (j * 2 + 1) + 1 + 1 by omega, List.getElem?_cons_succ, List.getElem?_cons_succ]
    exact ih
/-- What f has of each update. -/
structure Raw (w : World) (f : Nat → Value) (L : List UpT) : Prop where
  ed : ∀ i, i < L.length → f (i * 2) = .int .i64 (L.getD i default).1
  nt : ∀ i, i < L.length → ∃ na nc, f (i * 2 + 1) = .slice na (L.getD i default).2.length nc ∧ RNote w (.slice na (L.getD i default).2.length nc) (L.getD i default).2
theorem raw_of {w : World} {v : Value} {L : List UpT} (h : UpsIn w v L) : ∃ (f : Nat → Value) (ao : Option Addr) (cap : Nat), v = .slice ao L.length cap ∧ Raw w f L ∧ (0 < L.length → ∃ ad, ao = some ad ∧ ∀ j u, (cs2 f (List.range L.length))[j]? = some u → w.cell? (ad.add j) = some u) := by
  obtain ⟨ao, cap, e, h1, h2, h3⟩ := h
  by_cases h0 : 0 < L.length
  · obtain ⟨b, o, na, nc, ea, -, -, -⟩ := h3 0 h0
    subst ea
    refine ⟨fun q => (w.cell? ⟨b, o + q, none⟩).getD undef, _, cap, e, ⟨fun i hi => ?_, fun i hi => ?_⟩, fun _ => ⟨⟨b, o, none⟩, rfl, fun j u hu => ?_⟩⟩
    · obtain ⟨b', o', na', nc', ea', c0, c1, hr⟩ := h3 i hi
      simp only [Option.some.injEq, Addr.mk.injEq, and_true] at ea'
      obtain ⟨rfl, rfl⟩ := ea'
      simp only [c0, Option.getD_some]
    · obtain ⟨b', o', na', nc', ea', c0, c1, hr⟩ := h3 i hi
      simp only [Option.some.injEq, Addr.mk.injEq, and_true] at ea'
      obtain ⟨rfl, rfl⟩ := ea'
      exact ⟨na', nc', by rw [show o + (i * 2 + 1) = o + i * 2 + 1 by omega, c1]; rfl, hr⟩
    · have hj : j < L.length * 2 := by
        have := (List.getElem?_eq_some_iff.1 hu).1
        rw [cs2_len, List.length_range] at this
        exact this
      obtain ⟨i, r, hr2, rfl⟩ : ∃ i r, r < 2 ∧ j = i * 2 + r := ⟨j / 2, j % 2, by omega, by omega⟩
      have hi : i < L.length := by omega
      have hg := cs2_get (fun q => (w.cell? ⟨b, o + q, none⟩).getD undef) (List.range L.length) i (by rw [List.length_range]; exact hi)
      have er : (List.range L.length).getD i 0 = i := by simp [List.getD, hi]
      rw [er] at hg
      obtain ⟨b', o', na', nc', ea', c0, c1, hr⟩ := h3 i hi
      simp only [Option.some.injEq, Addr.mk.injEq, and_true] at ea'
      obtain ⟨rfl, rfl⟩ := ea'
      have ha : ∀ q, (⟨b, o, none⟩ : Addr).add q = ⟨b, o + q, none⟩ := fun q => by unfold Addr.add; split <;> simp_all
      rw [ha]
      have hrr : r = 0 ∨ r = 1 := by omega
      rcases hrr with rfl | rfl
      · rw [Nat.add_zero, hg.1] at hu
        rw [Nat.add_zero, c0]
        simp only [c0, Option.getD_some, Option.some.injEq] at hu
        rw [hu]
      · rw [hg.2] at hu
        rw [show o + (i * 2 + 1) = o + i * 2 + 1 by omega] at hu ⊢
        rw [c1]
        simp only [c1, Option.getD_some, Option.some.injEq] at hu
        rw [hu]
  · refine ⟨fun _ => undef, ao, cap, e, ⟨fun i hi => by omega, fun i hi => by omega⟩, fun h => absurd h h0⟩
theorem raw_one {w : World} {f : Nat → Value} {L : List UpT} (h : Raw w f L) {und : List Nat} (hu : ∀ i ∈ und, i < L.length) : ∀ v ∈ cs2 f und, v.oneCell' = true := by
  intro v hv
  simp only [cs2, List.mem_flatMap, List.mem_cons, List.not_mem_nil, or_false] at hv
  obtain ⟨i, hi, hv⟩ := hv
  rcases hv with rfl | rfl
  · rw [h.ed i (hu i hi)]; rfl
  · obtain ⟨na, nc, e, _⟩ := h.nt i (hu i hi)
    rw [e]; rfl
theorem ups_wait {w W : World} {f : Nat → Value} {L : List UpT} (hR : Raw w f L) (hb : Below w.heap.size w W) {gw cap : Nat} {und : List Nat} (hO : OwnV W gw (cs2 f und)) (hu : ∀ i ∈ und, i < L.length) (hc : und.length ≤ cap) (hm : cap ≤ maxLen) : UpsIn W (.slice (some ⟨gw, 0, none⟩) und.length cap) (wl L und) := by
  refine ⟨_, cap, by rw [wl_len], by rw [wl_len]; exact hc, hm, fun k hk => ?_⟩
  rw [wl_len] at hk
  rw [wl_get L hk]
  have hi : und.getD k 0 < L.length := hu _ (by rw [List.getD_eq_getElem?_getD, List.getElem?_eq_getElem hk]; exact List.getElem_mem hk)
  obtain ⟨h1, h2⟩ := cs2_get f und k hk
  generalize und.getD k 0 = i at *
  obtain ⟨na, nc, e, hr⟩ := hR.nt i hi
  refine ⟨gw, 0, na, nc, rfl, ?_, ?_, hr.below hb⟩
  · rw [Nat.zero_add, hO.cell h1, hR.ed i hi]
  · rw [Nat.zero_add, hO.cell h2, e]

end Go.Proofs.Ytmpicamenjnkkaa

/- The contract of the program's Catch. Written by wip/mkcati.py. -/
namespace Go.Proofs.Ytmpicamenjnkkaa
open Go.RowKit

/-- What the program's Catch leaves: a chart of its own, a list of its own, apart from each other. -/
def CatOwn (w w' : World) (da : Option Addr) (dk : Nat) (fa : Option Addr) (fk : Nat) (la : Option Addr) (lm lk : Nat) (A : Ch) (und : List Nat) : Prop :=
  ∃ B U gl, w.heap.size ≤ B ∧ U ≤ w'.heap.size ∧ OwnCh B U w' da dk fa fk A.D A.F (recCells 5 eFeature A.F) ∧ lm = und.length ∧ lm ≤ lk ∧ lk ≤ maxLen ∧ w.heap.size ≤ gl ∧ gl < w'.heap.size ∧ (gl < B ∨ U ≤ gl) ∧ (und ≠ [] → la = some ⟨gl, 0, none⟩ ∧ OwnV w' gl (ints (und.map Int.ofNat)))
theorem ownCh_at {w : World} {B g1 g2 : Nat} {D : List Int} {F : List FeatureT} (h1 : OwnV w g1 (ints D)) (h2 : OwnV w g2 (recCells 5 eFeature F)) (hb : B ≤ g1) (hlt : g1 < g2) (hD : D.length ≤ 1048576) (hF : F.length ≤ 1048576) : OwnCh B w.heap.size w (some ⟨g1, 0, none⟩) D.length (some ⟨g2, 0, none⟩) F.length D F (recCells 5 eFeature F) :=
  ⟨⟨Nat.le_refl _, by unfold maxLen; omega, Nat.le_refl _, by unfold maxLen; omega⟩, g1, g2, hb, h1.lt, by omega, h2.lt, by omega, Nat.le_refl _, fun _ => ⟨rfl, h1⟩, fun _ => ⟨rfl, h2⟩⟩
theorem ints_take_drop (X : List Int) (k : Nat) : (ints X).take k ++ (ints X).drop (k + 1) = ints (X.take k ++ X.drop (k + 1)) := by simp [ints, List.map_take, List.map_drop]
theorem ints_one6 (X : List Int) : ∀ v ∈ ints X, v.oneCell' = true := by
  intro v hv
  simp only [ints, List.mem_map] at hv
  obtain ⟨x, _, rfl⟩ := hv
  rfl
theorem made_ints (n : Nat) : (madeCells #[Value.int .i64 0] n).toList = ints (List.replicate n 0) := by
  apply List.ext_getElem?
  intro i
  by_cases h : i < n
  · simp [madeCells, ints, h, Nat.mod_one]
  · simp [madeCells, ints, h]
/-- The row of places while it is being filled. -/
def upTo (n k : Nat) : List Int := (List.range n).map fun i => if i < k then (i : Int) else 0
theorem upTo_zero (n : Nat) : upTo n 0 = List.replicate n 0 := by
  apply List.ext_getElem?
  intro i
  by_cases h : i < n <;> simp [upTo, h]
theorem upTo_all (n : Nat) : upTo n n = (List.range n).map Int.ofNat := by
  apply List.ext_getElem?
  intro i
  by_cases h : i < n
  · simp [upTo, h]
  · simp [upTo, h]
theorem upTo_len (n k : Nat) : (upTo n k).length = n := by simp [upTo]
theorem upTo_set (n k : Nat) : (upTo n k).set k (k : Int) = upTo n (k + 1) := by
  apply List.ext_getElem?
  intro i
  rw [List.getElem?_set]
  by_cases e : k = i
  · subst e
    by_cases h : k < n
    · simp [upTo, h]
    · simp [upTo, h]
  · rw [if_neg e]
    by_cases h : i < n
    · simp only [upTo, List.getElem?_map, List.getElem?_range h, Option.map_some]
      congr 1
      by_cases h2 : i < k
      · rw [if_pos h2, if_pos (by omega)]
      · rw [if_neg h2, if_neg (by omega)]
    · simp [upTo, h]

set_option maxRecDepth 1000000 in
set_option maxHeartbeats 16000000 in
theorem implCatch_any (c : Ch) (L : List UpT) (dao : Option Addr) (dn dc : Nat) (fao : Option Addr) (fn fc : Nat) (lao : Option Addr) (ln lc : Nat) (w : World) (hD : IntsIn w (.slice dao dn dc) c.D) (hF : RFeature w (.slice fao fn fc) c.F) (hL : UpsIn w (.slice lao ln lc) L) (hsD : c.D.length ≤ 1048576) (hsF : c.F.length ≤ 1048576) (hsL : L.length ≤ 1048576)
    (hI : ∀ k, k < L.length → ∀ i, i < (L.getD k default).2.length → -9223372036854775808 ≤ ((L.getD k default).2.getD i default).2.1 ∧ ((L.getD k default).2.getD i default).2.1 ≤ 9223372036854775807) :
    Calls Try.prog 11 #[vChart c.wd c.hg (.slice dao dn dc) (.slice fao fn fc) c.ed, .slice lao ln lc] w fun e w' => ∃ da dk fa fk la lm lk, e = .returned (.tuple #[vChart (catch6 c L).1.wd (catch6 c L).1.hg (.slice da (catch6 c L).1.D.length dk) (.slice fa (catch6 c L).1.F.length fk) (catch6 c L).1.ed, .slice la lm lk]) ∧ CatOwn w w' da dk fa fk la lm lk (catch6 c L).1 (catch6 c L).2 ∧ Below w.heap.size w w' := by
  obtain rfl := ints_len_eq hD
  obtain rfl := recs_len_eq hF
  obtain ⟨⟨A, undA⟩, eA⟩ : ∃ z, z = catch6 c L := ⟨_, rfl⟩
  rw [← eA]
  dsimp only
  have EA := hide eA
  clear eA
  obtain ⟨f, lao', lc', e1, hRaw, hsrc⟩ := raw_of hL
  simp only [Value.slice.injEq] at e1
  obtain ⟨rfl, rfl, rfl⟩ := e1
  have HRaw := hide hRaw
  have HSrc := hide hsrc
  have HI := hide hI
  have HD0 := hide hD
  have HF0 := hide hF
  clear hL hRaw hsrc hI hD hF
  have A1 := Below.alloc1 w (.cells #[.int .i64 c.wd, .int .i64 c.hg, .slice dao c.D.length dc, .slice fao c.F.length fc, .int .i64 c.ed] 27)
  have A2 := Below.alloc1 (w.alloc (.cells #[.int .i64 c.wd, .int .i64 c.hg, .slice dao c.D.length dc, .slice fao c.F.length fc, .int .i64 c.ed] 27)) (.cells #[.int .i64 0, .int .i64 0, .slice none 0 0, .slice none 0 0, .int .i64 0] 27)
  have HR : Hid (OwnV ((w.alloc (.cells #[.int .i64 c.wd, .int .i64 c.hg, .slice dao c.D.length dc, .slice fao c.F.length fc, .int .i64 c.ed] 27)).alloc (.cells #[.int .i64 0, .int .i64 0, .slice none 0 0, .slice none 0 0, .int .i64 0] 27)) (w.heap.size + 1) [.int .i64 0, .int .i64 0, .slice none 0 0, .slice none 0 0, .int .i64 0]) := by
    show OwnV _ _ _
    have h := ownV_alloc (w.alloc (.cells #[.int .i64 c.wd, .int .i64 c.hg, .slice dao c.D.length dc, .slice fao c.F.length fc, .int .i64 c.ed] 27)) #[.int .i64 0, .int .i64 0, .slice none 0 0, .slice none 0 0, .int .i64 0] 27
    simp only [World.size_alloc] at h
    exact h
  have HP := hide (OwnV.alloc (ownV_alloc w #[.int .i64 c.wd, .int .i64 c.hg, .slice dao c.D.length dc, .slice fao c.F.length fc, .int .i64 c.ed] 27) (.cells #[.int .i64 0, .int .i64 0, .slice none 0 0, .slice none 0 0, .int .i64 0] 27))
  have HW := hide (Below.step A1 A2)
  have p0 := (unhide HP).cell (i := 0) rfl
  have p1 := (unhide HP).cell (i := 1) rfl
  have p2 := (unhide HP).cell (i := 2) rfl
  have p3 := (unhide HP).cell (i := 3) rfl
  have p4 := (unhide HP).cell (i := 4) rfl
  have QO := hide (ownChart_any c dao c.D.length dc fao c.F.length fc _ ((unhide HD0).below (unhide HW)) ((unhide HF0).below (unhide HW)) hsD hsF)
  have hszW : w.heap.size + 2 = ((w.alloc (.cells #[.int .i64 c.wd, .int .i64 c.hg, .slice dao c.D.length dc, .slice fao c.F.length fc, .int .i64 c.ed] 27)).alloc (.cells #[.int .i64 0, .int .i64 0, .slice none 0 0, .slice none 0 0, .int .i64 0] 27)).heap.size := by simp
  have HSW := hide hszW
  clear A1 A2 hszW
  unfold vChart at *
  go_enter Try.func11, Try.ntmps11
  go_wp2_with fail
  refine (unhide QO).mono ?_
  rintro e w1 ⟨g1, g2, rfl, hg1, hg12, ho1, ho2, hb⟩
  have HO := hide (ownCh_at (B := w.heap.size + 2) ho1 ho2 (by rw [unhide HSW]; exact hg1) hg12 hsD hsF)
  have hs1 := hb.size
  rw [← unhide HSW] at hs1
  replace HR := hide ((unhide HR).step hb)
  replace HW := hide (Below.step (unhide HW) hb)
  clear hb ho1 ho2 p0 p1 p2 p3 p4 HP QO HSW hg1 hg12
  obtain ⟨da, eda⟩ : ∃ z, z = some (⟨g1, 0, none⟩ : Addr) := ⟨_, rfl⟩
  obtain ⟨fa, efa⟩ : ∃ z, z = some (⟨g2, 0, none⟩ : Addr) := ⟨_, rfl⟩
  rw [← eda, ← efa] at HO ⊢
  clear eda efa
  have hb := Below.alloc1 w1 (.cells #[.int .i64 c.wd, .int .i64 c.hg, .slice da c.D.length c.D.length, .slice fa c.F.length c.F.length, .int .i64 c.ed] 27)
  have HN := hide (ownV_alloc w1 #[.int .i64 c.wd, .int .i64 c.hg, .slice da c.D.length c.D.length, .slice fa c.F.length c.F.length, .int .i64 c.ed] 27)
  replace HR := hide ((unhide HR).step hb)
  replace HO := hide ((unhide HO).below hb)
  replace HW := hide (Below.step (unhide HW) hb)
  clear hb
  by_cases h60 : 60 < L.length
  · have h60i : (60 : Int) < L.length := by omega
    have EC : Hid ((A, undA) = (c, [])) := by show _ = _; rw [unhide EA]; unfold catch6; rw [if_pos h60]
    have EC1 := (Prod.mk.injEq _ _ _ _).mp (unhide EC)
    obtain ⟨rfl, rfl⟩ := EC1
    clear EC EA
    have n0 := (unhide HN).cell (i := 0) rfl
    have n1 := (unhide HN).cell (i := 1) rfl
    have n2 := (unhide HN).cell (i := 2) rfl
    have n3 := (unhide HN).cell (i := 3) rfl
    have n4 := (unhide HN).cell (i := 4) rfl
    have d0 := (unhide HR).cell (i := 0) rfl
    have df0 := (unhide HR).frozen 0
    have d1 := (unhide HR).cell (i := 1) rfl
    have df1 := (unhide HR).frozen 1
    have d2 := (unhide HR).cell (i := 2) rfl
    have df2 := (unhide HR).frozen 2
    have d3 := (unhide HR).cell (i := 3) rfl
    have df3 := (unhide HR).frozen 3
    have d4 := (unhide HR).cell (i := 4) rfl
    have df4 := (unhide HR).frozen 4
    have HRf := hide (own_five (unhide HR) (.int .i64 A.wd) (.int .i64 A.hg) (.slice da A.D.length A.D.length) (.slice fa A.F.length A.F.length) (.int .i64 A.ed))
    have hk := kept_five (Kept.refl (fun b => b = w.heap.size + 1) (w1.alloc (.cells #[.int .i64 A.wd, .int .i64 A.hg, .slice da A.D.length A.D.length, .slice fa A.F.length A.F.length, .int .i64 A.ed] 27))) rfl (.int .i64 A.wd) (.int .i64 A.hg) (.slice da A.D.length A.D.length) (.slice fa A.F.length A.F.length) (.int .i64 A.ed)
    have HOf := hide ((unhide HO).kept hk (fun b h1 h2 e => by omega))
    have hszf := hk.size
    have HWf := hide ((unhide HW).trans (hk.below (B := w.heap.size) (by have := (unhide HW).size; omega) (fun k e => by omega)))
    clear hk
    have q0 := (unhide HRf).cell (i := 0) rfl
    have q1 := (unhide HRf).cell (i := 1) rfl
    have q2 := (unhide HRf).cell (i := 2) rfl
    have q3 := (unhide HRf).cell (i := 3) rfl
    have q4 := (unhide HRf).cell (i := 4) rfl
    go_wp2
    refine bodyPost_ret (v := .tuple #[.agg #[.int .i64 A.wd, .int .i64 A.hg, .slice da A.D.length A.D.length, .slice fa A.F.length A.F.length, .int .i64 A.ed], .slice none 0 0]) (by simp [results, Try.results11, go_sem, q0, q1, q2, q3, q4]) rfl ⟨_, _, _, _, _, _, _, rfl, ⟨w.heap.size + 2, w1.heap.size, w.heap.size + 1, by omega, by simp only [World.size_alloc] at hszf; omega, unhide HOf, rfl, Nat.le_refl _, Nat.zero_le _, by omega, by simp only [World.size_alloc] at hszf; omega, by omega, fun h => absurd rfl h⟩, unhide HWf⟩

  have h60i : ¬ (60 : Int) < L.length := by omega
  have EC : Hid ((A, undA) = catchN L L.length c (List.range L.length)) := by show _ = _; rw [unhide EA]; unfold catch6; rw [if_neg h60]
  clear EA
  have QC := hide fun V (hV : Below w.heap.size w V) => ownCopyUpdate_any lao L.length lc (cs2 f (List.range L.length)) V (by rw [cs2_len, List.length_range]) (fun hp => by
    obtain ⟨ad, e, hx⟩ := unhide HSrc hp
    exact ⟨ad, e, fun j v hj => ((hV.cell (lt_of_cell (hx j v hj))).trans (hx j v hj))⟩) (raw_one (unhide HRaw) (fun i hi => List.mem_range.1 hi)) hsL
  have hmk := run_make_recs (P := Try.prog) 24 3 _ 1 8 Try.underlying24 Try.infoIntD .i64 .i64 L.length (by omega) (by omega)
  go_wp2_with fail
  refine (unhide QC _ (unhide HW)).mono ?_
  rintro e w2 ⟨rfl, hT, hb⟩
  have hs2 := hb.size
  simp only [World.size_alloc] at hs2 hT ⊢
  replace HR := hide ((unhide HR).step hb)
  replace HN := hide ((unhide HN).step hb)
  replace HO := hide ((unhide HO).below hb)
  replace HW := hide (Below.step (unhide HW) hb)
  have hs3 := hT.lt
  have HT := hide hT
  clear hb hT QC HSrc
  have hb := Below.alloc1 w2 (.cells (madeCells #[.int .i64 0] L.length) 3)
  have HL : Hid (OwnV (w2.alloc (.cells (madeCells #[.int .i64 0] L.length) 3)) w2.heap.size (ints (upTo L.length 0))) := by
    have h := ownV_alloc w2 (madeCells #[.int .i64 0] L.length) 3
    rw [made_ints, ← upTo_zero] at h
    exact h
  replace HR := hide ((unhide HR).step hb)
  replace HN := hide ((unhide HN).step hb)
  replace HT := hide ((unhide HT).step hb)
  replace HO := hide ((unhide HO).below hb)
  replace HW := hide (Below.step (unhide HW) hb)
  clear hb
  simp only [Nat.mul_one] at hmk
  have hcells : (Value.int .i64 0).cells = #[Value.int .i64 0] := rfl
  rw [hcells] at hmk
  clear hcells
  go_wp2
  clear hmk
  obtain ⟨gl, egl⟩ : ∃ z, z = w2.heap.size := ⟨_, rfl⟩
  rw [← egl] at HL hs2 hs3 ⊢
  obtain ⟨gn, egn⟩ : ∃ z, z = w1.heap.size := ⟨_, rfl⟩
  rw [← egn] at HN HT HO hs1 hs2 hs3 ⊢
  clear egl egn
  go_loopg [25] L.length (fun gh iv wr => ∃ k : Nat, k ≤ L.length ∧ gh = L.length - k ∧ iv = .int .i64 k ∧ Hid (OwnV wr (w.heap.size + 1) [.int .i64 0, .int .i64 0, .slice none 0 0, .slice none 0 0, .int .i64 0]) ∧ Hid (OwnV wr gn [.int .i64 c.wd, .int .i64 c.hg, .slice da c.D.length c.D.length, .slice fa c.F.length c.F.length, .int .i64 c.ed]) ∧ Hid (OwnV wr (gn + 1) (cs2 f (List.range L.length))) ∧ Hid (OwnV wr gl (ints (upTo L.length k))) ∧ Hid (OwnCh (w.heap.size + 2) gn wr da c.D.length fa c.F.length c.D c.F (recCells 5 eFeature c.F)) ∧ Hid (Below w.heap.size w wr))
  case atStart => exact ⟨0, Nat.zero_le _, rfl, rfl, unhide HR, unhide HN, unhide HT, unhide HL, unhide HO, unhide HW⟩
  case round =>
    clear HR HN HT HL HO HW
    obtain ⟨k, hk, rfl, rfl, HR, HN, HT, HL, HO, HW⟩ := hrel
    by_cases hkn : k < L.length
    · have hki : (k : Int) < L.length := by omega
      obtain ⟨u, hu⟩ : ∃ u, (ints (upTo L.length k))[k]? = some u := ⟨_, List.getElem?_eq_getElem (by rw [ints_length, upTo_len]; exact hkn)⟩
      have c0 := (unhide HL).cell hu
      have f0 := (unhide HL).frozen k
      have HLs := hide ((unhide HL).set k (.int .i64 k) (by rw [ints_length, upTo_len]; exact hkn))
      rw [ints_set, upTo_set] at HLs
      have hk2 := Kept.setCell (T := fun b => b = gl) (Kept.refl _ wr) (p := ⟨gl, k, none⟩) rfl (.int .i64 k)
      have HRs := hide ((unhide HR).kept hk2 (by omega))
      have HNs := hide ((unhide HN).kept hk2 (by omega))
      have HTs := hide ((unhide HT).kept hk2 (by omega))
      have HOs := hide ((unhide HO).kept hk2 (fun b h1 h2 e => by omega))
      have HWs := hide ((unhide HW).trans (hk2.below (B := w.heap.size) (by have := (unhide HW).size; omega) (fun k e => by omega)))
      clear hk2 hu
      go_wp2
      go_roundg (L.length - (k + 1))
      case measure => omega
      case rel => exact ⟨k + 1, by omega, rfl, by go_num, unhide HRs, unhide HNs, unhide HTs, unhide HLs, unhide HOs, unhide HWs⟩
    · have hki : ¬ (k : Int) < L.length := by omega
      have hkk : k = L.length := by omega
      rw [hkk, upTo_all] at HL
      clear hkk hkn hk
      go_wp2
      go_loopg [7, 8] L.length (fun gh tv lv wr => ∃ (N cw cl : Nat) (und : List Nat) (d : Ch) (da : Option Addr) (dk : Nat) (fa : Option Addr) (fk B U fu : Nat), gh = N ∧ N ≤ 60 ∧ tv = .slice (some ⟨gn + 1, 0, none⟩) N cw ∧ lv = .slice (some ⟨gl, 0, none⟩) N cl ∧ N ≤ cw ∧ N ≤ cl ∧ cw ≤ 1048576 ∧ cl ≤ 1048576 ∧ w.heap.size + 2 ≤ B ∧ (U ≤ gn ∨ gl < B) ∧ U ≤ wr.heap.size ∧ Hid (und.length = N) ∧ Hid (und.Nodup) ∧ Hid (∀ i ∈ und, i < L.length) ∧ Hid ((A, undA) = catchN L fu d und ∧ und.length ≤ fu) ∧ Hid (d.D.length ≤ 1048576 ∧ d.F.length ≤ 1048576) ∧ Hid (OwnV wr (w.heap.size + 1) [.int .i64 0, .int .i64 0, .slice none 0 0, .slice none 0 0, .int .i64 0]) ∧ Hid (OwnV wr gn [.int .i64 d.wd, .int .i64 d.hg, .slice da d.D.length dk, .slice fa d.F.length fk, .int .i64 d.ed]) ∧ Hid (OwnV wr (gn + 1) (cs2 f und)) ∧ Hid (OwnV wr gl (ints (und.map Int.ofNat))) ∧ Hid (OwnCh B U wr da dk fa fk d.D d.F (recCells 5 eFeature d.F)) ∧ Hid (Below w.heap.size w wr))
      case atStart => exact ⟨L.length, L.length, L.length, List.range L.length, c, da, c.D.length, fa, c.F.length, w.heap.size + 2, gn, L.length, rfl, by omega, rfl, rfl, Nat.le_refl _, Nat.le_refl _, hsL, hsL, Nat.le_refl _, Or.inl (Nat.le_refl _), Nat.le_of_lt (unhide HN).lt, List.length_range, List.nodup_range, fun i hi => List.mem_range.1 hi, ⟨unhide EC, by rw [List.length_range]; exact Nat.le_refl _⟩, ⟨hsD, hsF⟩, unhide HR, unhide HN, unhide HT, unhide HL, unhide HO, unhide HW⟩
      case round =>
        clear HR HN HT HL HO HW EC
        obtain ⟨N, cw, cl, und, d, da, dk, fa, fk, B, U, fu, hgN, hN60, rfl, rfl, hNw, hNl, hcw, hcl, hB2, hUB, hUw, HLEN, HND, HIN, HCN, HBD, HR, HN, HT, HL, HO, HW⟩ := hrel
        have hgN' := hgN.symm
        subst hgN'
        clear hgN
        have hUPS := ups_wait (unhide HRaw) (unhide HW) (unhide HT) (unhide HIN) (cap := cw) (by rw [unhide HLEN]; exact hNw) (by unfold maxLen; omega)
        rw [unhide HLEN] at hUPS
        have QF := hide (firstDone_any d (wl L und) da dk fa fk (some ⟨gn + 1, 0, none⟩) N cw wr (unhide HO).ints (unhide HO).feats hUPS (by rw [wl_len, unhide HLEN]; exact hN60) (unhide HBD).1 (unhide HBD).2 (fun k hk i hi => by
          rw [wl_len] at hk
          rw [wl_get L hk] at hi ⊢
          exact unhide HI _ (unhide HIN _ (by rw [List.getD_eq_getElem?_getD, List.getElem?_eq_getElem hk]; exact List.getElem_mem hk)) i hi))
        clear hUPS
        unfold vChart at QF
        have n0 := (unhide HN).cell (i := 0) rfl
        have n1 := (unhide HN).cell (i := 1) rfl
        have n2 := (unhide HN).cell (i := 2) rfl
        have n3 := (unhide HN).cell (i := 3) rfl
        have n4 := (unhide HN).cell (i := 4) rfl
        go_wp2_with fail
        refine (unhide QF).mono ?_
        rintro e w4 ⟨hans, hb⟩
        have hs4 := hb.size
        have hrl := (unhide HR).lt
        have hnl := (unhide HN).lt
        have htl := (unhide HT).lt
        have hll := (unhide HL).lt
        clear n0 n1 n2 n3 n4 QF
        replace HR := hide ((unhide HR).step hb)
        replace HN := hide ((unhide HN).step hb)
        replace HT := hide ((unhide HT).step hb)
        replace HL := hide ((unhide HL).step hb)
        replace HO := hide ((unhide HO).below hb)
        replace HW := hide (Below.step (unhide HW) hb)
        clear hb
        rcases hans with ⟨k, qa, qk, qb, ql, hfind, hkl, rfl, hown⟩ | ⟨hnone, rfl⟩
        · unfold vChart
          have hku : k < und.length := by rw [wl_len] at hkl; exact hkl
          have hf : und.find? (okAt d L) = some (und.getD k 0) := by rw [find_wl, hfind]; rfl
          obtain ⟨fu', hc1, hc2, hc3⟩ := catch_some hf (unhide HCN).2
          have eg : und.getD k 0 = und[k] := by rw [List.getD_eq_getElem?_getD, List.getElem?_eq_getElem hku]; rfl
          have efl : und.filter (fun r => decide (r ≠ und.getD k 0)) = und.take k ++ und.drop (k + 1) := by rw [eg]; exact filter_at (unhide HND) hku
          have HND' := hide ((unhide HND).filter (fun r => decide (r ≠ und.getD k 0)))
          have HIN' : Hid (∀ i ∈ und.filter (fun r => decide (r ≠ und.getD k 0)), i < L.length) := fun i hi => unhide HIN i (List.mem_filter.1 hi).1
          rw [efl] at hc1 hc2 hc3 HND' HIN'
          rw [wl_get L hku] at hown ⊢
          have hbd := applyOf_bd d (L.getD (und.getD k 0) default) (unhide HBD).1 (unhide HBD).2
          obtain ⟨d', ed'⟩ : ∃ z, z = (applyOf d (L.getD (und.getD k 0) default)).1 := ⟨_, rfl⟩
          rw [← ed'] at hown hc1 hbd ⊢
          have HCN' : Hid ((A, undA) = catchN L fu' d' (und.take k ++ und.drop (k + 1)) ∧ (und.take k ++ und.drop (k + 1)).length ≤ fu') := ⟨(unhide HCN).1.trans hc1, hc2⟩
          have HBD' := hide hbd
          obtain ⟨m, hm⟩ : ∃ m, N = m + 1 := ⟨N - 1, by have := unhide HLEN; omega⟩
          subst hm
          have hkm : k ≤ m := by have := unhide HLEN; omega
          have HLEN' : Hid ((und.take k ++ und.drop (k + 1)).length = m) := by show _ = _; have := unhide HLEN; rw [List.length_append, List.length_take, List.length_drop]; omega
          have HQ := hide hown
          have HCD := hide (cs2_del f und hku)
          have HID : Hid ((ints (und.map Int.ofNat)).take k ++ (ints (und.map Int.ofNat)).drop (k + 1) = ints ((und.take k ++ und.drop (k + 1)).map Int.ofNat)) := by show _ = _; rw [ints_take_drop]; simp [List.map_take, List.map_drop]
          have HC2 : Hid ((cs2 f und).length = (m + 1) * 2) := by show _ = _; rw [cs2_len, unhide HLEN]
          have HI2 : Hid ((ints (und.map Int.ofNat)).length = m + 1) := by show _ = _; rw [ints_length, List.length_map, unhide HLEN]
          have HOne := hide (raw_one (unhide HRaw) (unhide HIN))
          clear hku hf hc1 hc2 hc3 eg efl hbd ed' hown hfind hkl HCN HBD HND HIN HLEN HO hUB hUw
          have hb := Below.alloc1 w4 (.cells #[.int .i64 d'.wd, .int .i64 d'.hg, .slice qa d'.D.length qk, .slice qb d'.F.length ql, .int .i64 d'.ed] 27)
          have HX := hide (ownV_alloc w4 #[.int .i64 d'.wd, .int .i64 d'.hg, .slice qa d'.D.length qk, .slice qb d'.F.length ql, .int .i64 d'.ed] 27)
          replace HR := hide ((unhide HR).step hb)
          replace HN := hide ((unhide HN).step hb)
          replace HT := hide ((unhide HT).step hb)
          replace HL := hide ((unhide HL).step hb)
          replace HQ := hide ((unhide HQ).below hb)
          replace HW := hide (Below.step (unhide HW) hb)
          clear hb
          have x0 := (unhide HX).cell (i := 0) rfl
          have d0 := (unhide HN).cell (i := 0) rfl
          have df0 := (unhide HN).frozen 0
          have x1 := (unhide HX).cell (i := 1) rfl
          have d1 := (unhide HN).cell (i := 1) rfl
          have df1 := (unhide HN).frozen 1
          have x2 := (unhide HX).cell (i := 2) rfl
          have d2 := (unhide HN).cell (i := 2) rfl
          have df2 := (unhide HN).frozen 2
          have x3 := (unhide HX).cell (i := 3) rfl
          have d3 := (unhide HN).cell (i := 3) rfl
          have df3 := (unhide HN).frozen 3
          have x4 := (unhide HX).cell (i := 4) rfl
          have d4 := (unhide HN).cell (i := 4) rfl
          have df4 := (unhide HN).frozen 4
          have HN5 := hide (own_five (unhide HN) (.int .i64 d'.wd) (.int .i64 d'.hg) (.slice qa d'.D.length qk) (.slice qb d'.F.length ql) (.int .i64 d'.ed))
          have hk := kept_five (Kept.refl (fun b => b = gn) (w4.alloc (.cells #[.int .i64 d'.wd, .int .i64 d'.hg, .slice qa d'.D.length qk, .slice qb d'.F.length ql, .int .i64 d'.ed] 27))) rfl (.int .i64 d'.wd) (.int .i64 d'.hg) (.slice qa d'.D.length qk) (.slice qb d'.F.length ql) (.int .i64 d'.ed)
          have HR5 := hide ((unhide HR).kept hk (by omega))
          have HT5 := hide ((unhide HT).kept hk (by omega))
          have HL5 := hide ((unhide HL).kept hk (by omega))
          have HQ5 := hide ((unhide HQ).kept hk (fun b h1 h2 e => by omega))
          have HW5 := hide ((unhide HW).trans (hk.below (B := w.heap.size) (by have := (unhide HW).size; omega) (fun k e => by omega)))
          have hsz5 := hk.size
          simp only [World.size_alloc] at hsz5
          generalize hV6 : (((((((w4.alloc (.cells #[.int .i64 d'.wd, .int .i64 d'.hg, .slice qa d'.D.length qk, .slice qb d'.F.length ql, .int .i64 d'.ed] 27)).setCell ⟨gn, 0, none⟩ (.int .i64 d'.wd)).setCell ⟨gn, 1, none⟩ (.int .i64 d'.hg)).setCell ⟨gn, 2, none⟩ (.slice qa d'.D.length qk)).setCell ⟨gn, 3, none⟩ (.slice qb d'.F.length ql)).setCell ⟨gn, 4, none⟩ (.int .i64 d'.ed))) = V6 at HN5 HR5 HT5 HL5 HQ5 HW5 hsz5
          clear hk HR HN HT HL HQ HW HX
          have q1 : IntKind.i64.wrap ((k : Int) + 1) = (k : Int) + 1 := by rw [IntKind.wrap_i64]; omega
          have hk0 : decide ((k : Int) < 0) = false := by simp
          have QD := hide fun V hV => delUpdate_any (gn + 1) m cw k (cs2 f und) V hV (unhide HC2) (unhide HOne) hkm (by omega) hNw
          rw [unhide HCD] at QD
          have QI := hide fun V hV => delInt_any gl m cl k (ints (und.map Int.ofNat)) V hV (unhide HI2) (ints_one6 _) hkm (by omega) hNl
          rw [unhide HID] at QI
          generalize und.take k ++ und.drop (k + 1) = und' at *
          go_wp2_with fail
          refine (unhide QD _ (unhide HT5)).mono ?_
          rintro e w7 ⟨rfl, hT7, hk⟩
          have HT7 := hide hT7
          have HR7 := hide ((unhide HR5).kept hk (by omega))
          have HN7 := hide ((unhide HN5).kept hk (by omega))
          have HL7 := hide ((unhide HL5).kept hk (by omega))
          have HQ7 := hide ((unhide HQ5).kept hk (fun b h1 h2 e => by omega))
          have HW7 := hide ((unhide HW5).trans (hk.below (B := w.heap.size) (by have := (unhide HW5).size; omega) (fun k e => by omega)))
          have hs7 := hk.size
          clear hT7 hk QD HT5 HR5 HN5 HL5 HQ5 HW5 hV6 x0 x1 x2 x3 x4 d0 d1 d2 d3 d4 df0 df1 df2 df3 df4
          go_wp2_with fail
          refine (unhide QI _ (unhide HL7)).mono ?_
          rintro e w8 ⟨rfl, hL8, hk⟩
          have HL8 := hide hL8
          have HR8 := hide ((unhide HR7).kept hk (by omega))
          have HN8 := hide ((unhide HN7).kept hk (by omega))
          have HT8 := hide ((unhide HT7).kept hk (by omega))
          have HQ8 := hide ((unhide HQ7).kept hk (fun b h1 h2 e => by omega))
          have HW8 := hide ((unhide HW7).trans (hk.below (B := w.heap.size) (by have := (unhide HW7).size; omega) (fun k e => by omega)))
          have hs8 := hk.size
          clear hL8 hk QI HL7 HR7 HN7 HT7 HQ7 HW7
          go_wp2
          go_roundg m
          case measure => omega
          case rel => exact ⟨m, cw, cl, und', d', qa, qk, qb, ql, wr.heap.size, w4.heap.size, fu', rfl, by omega, rfl, rfl, by omega, by omega, hcw, hcl, by omega, Or.inr (by omega), by omega, unhide HLEN', unhide HND', unhide HIN', unhide HCN', unhide HBD', unhide HR8, unhide HN8, unhide HT8, unhide HL8, unhide HQ8, unhide HW8⟩
        · unfold vChart
          have hf : und.find? (okAt d L) = none := by rw [find_wl, hnone]; rfl
          have EQ := (unhide HCN).1
          rw [catch_none hf] at EQ
          simp only [Prod.mk.injEq] at EQ
          obtain ⟨eQ1, eQ2⟩ := EQ
          subst eQ1
          subst eQ2
          clear hf hnone HCN
          have hb := Below.alloc1 w4 (.cells #[.int .i64 A.wd, .int .i64 A.hg, .slice da A.D.length dk, .slice fa A.F.length fk, .int .i64 A.ed] 27)
          replace HR := hide ((unhide HR).step hb)
          replace HN := hide ((unhide HN).step hb)
          replace HT := hide ((unhide HT).step hb)
          replace HL := hide ((unhide HL).step hb)
          replace HO := hide ((unhide HO).below hb)
          replace HW := hide (Below.step (unhide HW) hb)
          clear hb
          have n0 := (unhide HN).cell (i := 0) rfl
          have n1 := (unhide HN).cell (i := 1) rfl
          have n2 := (unhide HN).cell (i := 2) rfl
          have n3 := (unhide HN).cell (i := 3) rfl
          have n4 := (unhide HN).cell (i := 4) rfl
          have d0 := (unhide HR).cell (i := 0) rfl
          have df0 := (unhide HR).frozen 0
          have d1 := (unhide HR).cell (i := 1) rfl
          have df1 := (unhide HR).frozen 1
          have d2 := (unhide HR).cell (i := 2) rfl
          have df2 := (unhide HR).frozen 2
          have d3 := (unhide HR).cell (i := 3) rfl
          have df3 := (unhide HR).frozen 3
          have d4 := (unhide HR).cell (i := 4) rfl
          have df4 := (unhide HR).frozen 4
          have HRf := hide (own_five (unhide HR) (.int .i64 A.wd) (.int .i64 A.hg) (.slice da A.D.length dk) (.slice fa A.F.length fk) (.int .i64 A.ed))
          have hk := kept_five (Kept.refl (fun b => b = w.heap.size + 1) (w4.alloc (.cells #[.int .i64 A.wd, .int .i64 A.hg, .slice da A.D.length dk, .slice fa A.F.length fk, .int .i64 A.ed] 27))) rfl (.int .i64 A.wd) (.int .i64 A.hg) (.slice da A.D.length dk) (.slice fa A.F.length fk) (.int .i64 A.ed)
          have HOf := hide ((unhide HO).kept hk (fun b h1 h2 e => by omega))
          have HLf := hide ((unhide HL).kept hk (by omega))
          have hszf := hk.size
          have HWf := hide ((unhide HW).trans (hk.below (B := w.heap.size) (by have := (unhide HW).size; omega) (fun k e => by omega)))
          clear hk
          have q0 := (unhide HRf).cell (i := 0) rfl
          have q1 := (unhide HRf).cell (i := 1) rfl
          have q2 := (unhide HRf).cell (i := 2) rfl
          have q3 := (unhide HRf).cell (i := 3) rfl
          have q4 := (unhide HRf).cell (i := 4) rfl
          go_wp2
          refine bodyPost_ret (v := .tuple #[.agg #[.int .i64 A.wd, .int .i64 A.hg, .slice da A.D.length dk, .slice fa A.F.length fk, .int .i64 A.ed], .slice (some ⟨gl, 0, none⟩) N cl]) (by simp [results, Try.results11, go_sem, q0, q1, q2, q3, q4]) rfl ⟨_, _, _, _, _, _, _, rfl, ⟨B, U, gl, by omega, by simp only [World.size_alloc] at hszf; omega, unhide HOf, (unhide HLEN).symm, hNl, by unfold maxLen; omega, by omega, by simp only [World.size_alloc] at hszf; omega, by omega, fun _ => ⟨rfl, unhide HLf⟩⟩, unhide HWf⟩

end Go.Proofs.Ytmpicamenjnkkaa

/- Lists of updates: a contract of the laws' own eqUpdateS. No statement about the program stands here. -/
namespace Go.Proofs.Ytmpicamenjnkkaa
open Go.RowKit

set_option maxHeartbeats 1600000 in
theorem eqUpdateS_any (v v' : Value) (L : List UpT) (w : World) (h : UpsIn w v L) (h' : UpsIn w v' L) :
    Calls Try.prog 34 #[v, v'] w fun e w' => e = .returned (.bool true) ∧ Below w.heap.size w w' := by
  obtain ⟨ao, cap, rfl, hl, hm, hc⟩ := h
  obtain ⟨ao', cap', rfl, _, _, hc'⟩ := h'
  unfold maxLen at hm
  have HC := hide hc
  have HC' := hide hc'
  clear hc hc'
  go_enter Try.func34, Try.ntmps34
  go_wp2
  go_loopg [5] L.length (fun g i wr => Below w.heap.size w wr ∧ ∃ k : Nat, k ≤ L.length ∧ g = L.length - k ∧ i = .int .i64 k)
  case atStart => exact ⟨Below.refl _ _, 0, Nat.zero_le _, rfl, rfl⟩
  case round =>
    obtain ⟨hW, k, hk, rfl, rfl⟩ := hrel
    by_cases hkn : k < L.length
    · obtain ⟨b, o, na, nc, rfl, hc0, hc1, hr⟩ := unhide HC k hkn
      obtain ⟨b', o', na', nc', rfl, hd0, hd1, hr'⟩ := unhide HC' k hkn
      have S1 := hide fun x' : Gr wr => eqUpdate_any (L.getD k default).1 na _ nc na' _ nc' (L.getD k default).2 x'.val ((hr.below hW).below x'.ok) ((hr'.below hW).below x'.ok)
      generalize L.getD k default = z at hc0 hc1 hd0 hd1 S1
      obtain ⟨ed, U⟩ := z
      dsimp only at hc0 hc1 hd0 hd1 S1
      have r0 := fun x' : Gr wr => gr_cell (wcell3 hc0 hW) x'
      have r0' := fun x' : Gr wr => gr_cell (wcell3 hd0 hW) x'
      have r1 := fun x' : Gr wr => gr_cell (wcell3 hc1 hW) x'
      have r1' := fun x' : Gr wr => gr_cell (wcell3 hd1 hW) x'
      unfold vUpdate at S1
      have HW := hide hW
      have gsome := gr_some wr
      clear hc0 hc1 hd0 hd1 hW hr hr'
      go_wp2
      refine wp_region_grown (by kernel_rfl) (by kernel_rfl) ?_
      repeat (go_big_quiet_step (fail))
      go_big_quiet_want
      go_big_quiet_op
      go_big_quiet_call (exact calls_grown (unhide S1 _))
      repeat (go_big_quiet_step (fail))
      refine wpQuiet_nil ?_
      intro w1 hw1
      obtain ⟨z', hz⟩ := hw1
      have hb1 : Below wr.heap.size wr w1 := hz ▸ z'.ok
      clear hz gsome
      go_wp2
      go_roundg (L.length - (k + 1))
      case measure => omega
      case rel => exact ⟨Below.step (unhide HW) hb1, k + 1, by omega, rfl, by go_num⟩
    · go_wp2
      go_ret
      exact ⟨rfl, hW⟩

end Go.Proofs.Ytmpicamenjnkkaa

/- Lists of updates: a contract of the laws' own markUpdateS. No statement about the program stands here. -/
namespace Go.Proofs.Ytmpicamenjnkkaa
open Go.RowKit

/-- The blocks of a list of updates of the call's own. -/
def UpT.Bl (g : Nat) (G : Nat → Nat) (n : Nat) (b : Nat) : Prop := b = g ∨ ∃ r, r < n ∧ b = G r
/-- From the k-th on the updates still stand as they were. -/
structure MarkU (w wr : World) (g : Nat) (G : Nat → Nat) (L : List UpT) (k : Nat) : Prop where
  kept : Kept (UpT.Bl g G L.length) w wr
  row : ∃ vs, OwnV wr g vs ∧ vs.length = L.length * 2 ∧ ∀ r, k ≤ r → r < L.length → vs[r * 2 + 1]? = some (.slice (some ⟨G r, 0, none⟩) (L.getD r default).2.length (L.getD r default).2.length)
  own : ∀ r, k ≤ r → r < L.length → OwnV wr (G r) (recCells 7 eNote (L.getD r default).2)
  beh : ∀ r, r < L.length → g < G r
  inc : ∀ r s, r < s → s < L.length → G r < G s
theorem MarkU.start {w : World} {g : Nat} {G : Nat → Nat} {L : List UpT} (h : OwnUps w g G L) : MarkU w w g G L 0 := by
  refine ⟨Kept.refl _ _, ⟨_, h.1, by rw [recCells_length, upL_len], fun r _ hr => ?_⟩, fun r _ hr => (h.2.1 r hr).2, fun r hr => (h.2.1 r hr).1, h.2.2⟩
  have hq : r * 2 + 1 < (upL L G).length * 2 := by rw [upL_len]; omega
  have e1 : (r * 2 + 1) / 2 = r := by omega
  have e2 : (r * 2 + 1) % 2 = 1 := by omega
  have e3 := upL_get (L := L) (G := G) hr
  simp only [recCells, List.getElem?_map, List.getElem?_range hq, Option.map_some, e1, e2, e3, eUp]
theorem MarkU.put {w wr : World} {g : Nat} {G : Nat → Nat} {L : List UpT} {k : Nat} (h : MarkU w wr g G L k) (hk : k < L.length) (u : Value) : MarkU w (wr.setCell ⟨g, k * 2, none⟩ u) g G L k := by
  obtain ⟨vs, ho, hl, hc⟩ := h.row
  refine ⟨h.kept.setCell (p := ⟨g, k * 2, none⟩) (Or.inl rfl) u, ⟨_, ho.set (k * 2) u (by omega), by simpa using hl, fun r h1 h2 => ?_⟩, fun r h1 h2 => (h.own r h1 h2).other (a := ⟨g, k * 2, none⟩) (by have := h.beh r h2; simp only; omega) u, h.beh, h.inc⟩
  rw [List.getElem?_set_ne (by omega)]
  exact hc r h1 h2
theorem MarkU.next {w wr w1 : World} {g : Nat} {G : Nat → Nat} {L : List UpT} {k : Nat} (h : MarkU w wr g G L k) (hk : k < L.length) (hq : Kept (fun b => b = G k) wr w1) : MarkU w w1 g G L (k + 1) := by
  obtain ⟨vs, ho, hl, hc⟩ := h.row
  refine ⟨h.kept.trans (hq.mono fun b _ e => Or.inr ⟨k, hk, e⟩), ⟨vs, ho.kept hq (by have := h.beh k hk; omega), hl, fun r h1 h2 => hc r (by omega) h2⟩, fun r h1 h2 => (h.own r (by omega) h2).kept hq (by have := h.inc k r (by omega) h2; omega), h.beh, h.inc⟩

set_option maxHeartbeats 1600000 in
theorem markUpdateS_any (g cap : Nat) (G : Nat → Nat) (L : List UpT) (k0 : Int) (w : World) (h : OwnUps w g G L) (hs : L.length ≤ 1048576) (hl : ∀ i, i < L.length → (L.getD i default).2.length ≤ 1048576) (hk0 : 0 ≤ k0) (hk1 : k0 ≤ 1073741824) :
    Calls Try.prog 35 #[.slice (some ⟨g, 0, none⟩) L.length cap, .int .i64 k0] w fun e w' => ∃ r, e = .returned (.int .i64 r) ∧ 0 ≤ r ∧ r ≤ 1152921504606846976 ∧ Kept (UpT.Bl g G L.length) w w' := by
  have HL := hide hl
  have HM := hide (MarkU.start h)
  clear hl h
  go_enter Try.func35, Try.ntmps35
  go_wp2
  go_loopg [1, 5] L.length (fun gg kv iv wr => ∃ k : Nat, k ≤ L.length ∧ gg = L.length - k ∧ iv = .int .i64 k ∧ (∃ q : Int, kv = .int .i64 q ∧ 0 ≤ q ∧ q ≤ 1073741824 + (k : Int) * 8388608) ∧ Hid (MarkU w wr g G L k))
  case atStart => exact ⟨0, Nat.zero_le _, rfl, rfl, ⟨_, rfl, by omega, by omega⟩, HM⟩
  case round =>
    obtain ⟨k, hk, rfl, rfl, ⟨q, rfl, hq0, hq1⟩, HU⟩ := hrel
    by_cases hkn : k < L.length
    · obtain ⟨vs, ho, hvl, hvc⟩ := (unhide HU).row
      have hc1 := ho.cell (hvc k (Nat.le_refl _) hkn)
      obtain ⟨u0, hu0⟩ : ∃ u, wr.cell? ⟨g, k * 2, none⟩ = some u := ⟨vs[k * 2]'(by omega), ho.cell (List.getElem?_eq_getElem (by omega))⟩
      have hf := ho.frozen (k * 2)
      have hUl := unhide HL k hkn
      have HU1 := hide ((unhide HU).put hkn (.int .i64 q))
      have HMN := hide fun V (hV : MarkU w V g G L k) => markNoteS_any (G k) (L.getD k default).2.length (L.getD k default).2.length _ (q + 1) V (hV.own k (Nat.le_refl _) hkn) (by rw [recCells_length]; omega) hUl (by omega) (by omega)
      generalize (L.getD k default).2.length = m at hc1 HMN hUl
      clear ho hvl hvc
      go_wp2_with fail
      refine (unhide HMN _ (unhide HU1)).mono ?_
      rintro e w1 ⟨rfl, hkp, -⟩
      have HU2 := hide ((unhide HU1).next hkn hkp)
      clear hkp HU HU1 HMN
      go_wp2
      go_roundg (L.length - (k + 1))
      case measure => omega
      case rel => exact ⟨k + 1, by omega, rfl, by go_num, ⟨_, rfl, by omega, by omega⟩, HU2⟩
    · go_wp2
      go_ret
      exact ⟨_, rfl, by omega, by omega, (unhide HU).kept⟩

end Go.Proofs.Ytmpicamenjnkkaa
