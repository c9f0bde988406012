/- Contract of the program's Quickest. Written by wip/mkquick2.py. -/
import Derived.Test.YtahgblhmdhjahaaImQ1
import Derived.Deep.DeepCutAuto
import Derived.WalkMore
namespace Go.Proofs.Ytahgblhmdhjahaa
open Go.RowKit

theorem never {s : Se} {x : Nat} (h : openB s x 0 = false) : ∀ t p, hereN s x t p = false
  | 0, p => by
    unfold hereN
    by_cases e : p = x
    · rw [e, h]; simp
    · rw [decide_eq_false e]; rfl
  | t + 1, p => by
    show nextH s (hereN s x t) t p = false
    unfold nextH
    rw [List.any_eq_false.2 (fun q _ => by rw [never h t q]; simp)]
    simp

theorem here_out {s : Se} {x : Nat} (hx : x < s.D.length) : ∀ t {i : Nat}, s.D.length ≤ i → hereN s x t i = false
  | 0, i, hi => by
    unfold hereN
    rw [decide_eq_false (by omega)]
    rfl
  | t + 1, i, hi => by
    show nextH s (hereN s x t) t i = false
    unfold nextH openB
    rw [List.getD_eq_getElem?_getD, List.getElem?_eq_none hi]
    simp
def nN (H : Nat → Bool) (p i : Nat) : Bool := decide (i < p) && H i
theorem nN_zero (H : Nat → Bool) (i : Nat) : false = nN H 0 i := by unfold nN; simp
theorem nN_no {H : Nat → Bool} {p : Nat} (h : H p = false) (i : Nat) : nN H p i = nN H (p + 1) i := by
  unfold nN
  by_cases e : i = p
  · rw [e, h]; simp
  · by_cases hl : i < p
    · simp [hl, show i < p + 1 by omega]
    · simp [hl, show ¬ i < p + 1 by omega]
theorem nN_yes {H : Nat → Bool} {p : Nat} (h : H p = true) (i : Nat) : (if i = p then true else nN H p i) = nN H (p + 1) i := by
  unfold nN
  by_cases e : i = p
  · rw [e, if_pos rfl, h]; simp
  · rw [if_neg e]
    by_cases hl : i < p
    · simp [hl, show i < p + 1 by omega]
    · simp [hl, show ¬ i < p + 1 by omega]
theorem zero144 : Try.zeroCells80 = (bo 144 (fun _ => false)).toArray := by kernel_rfl
theorem info144 : (Try.prog.info? 80).map (·.size) = some 144 := by kernel_rfl

theorem wpList_loadW {P : Program} {ops : Array Oper} {rest : List Oper} {o : Oper} {a : Act} {w : World} {Q : Exit → Act → World → Prop} (hg : o.guard = none) (x : Operand) (t : TypeId) (ho : o.op = .load t x) (ad : Addr) (hx : a.eval x = .pointer (some ad)) (v : Value) (hl : (loadVar t ad).run P w = .ok v w)
    (h : wpList P ops Q rest (a.put o.dst v) w) : wpList P ops Q (o :: rest) a w := by
  refine wpList_plain hg fun K hK => ?_
  unfold Oper.wp execOp
  simp only [ho, Instr.loadAt, Instr.sureAddr, hx, Sem.run_bind, Sem.run_pure, Result.andThen_ok, hl]
  exact hK _ _ h
theorem wpList_storeW {P : Program} {ops : Array Oper} {rest : List Oper} {o : Oper} {a : Act} {w w' : World} {Q : Exit → Act → World → Prop} (hg : o.guard = none) (x y : Operand) (t : TypeId) (ho : o.op = .store t x y) (ad : Addr) (hx : a.eval x = .pointer (some ad)) (v : Value) (hy : a.eval y = v) (hl : (storeVar t ad v).run P w = .ok () w')
    (h : wpList P ops Q rest (a.put o.dst undef) w') : wpList P ops Q (o :: rest) a w := by
  refine wpList_plain hg fun K hK => ?_
  unfold Oper.wp execOp
  simp only [ho, Instr.storeAt, Instr.sureAddr, hx, hy, Sem.run_bind, Sem.run_pure, Result.andThen_ok, hl]
  exact hK _ _ h

/-- The box of the sea and the array here. -/
structure QA (w W : World) (box : List Value) (gh : Nat) (H : Nat → Bool) : Prop where
  below : Below w.heap.size w W
  ob : OwnV W w.heap.size box
  oh : ArrIs W gh H
  h1 : w.heap.size < gh
theorem QA.step {w W W' : World} {box : List Value} {gh : Nat} {H : Nat → Bool} (h : QA w W box gh H) (hb : Below W.heap.size W W') : QA w W' box gh H := ⟨Below.step h.below hb, h.ob.step hb, h.oh.step hb, h.h1⟩
theorem QA.put {w W : World} {box : List Value} {gh : Nat} {H : Nat → Bool} (h : QA w W box gh H) {q : Nat} (hq : q < 144) (b : Bool) : QA w (W.setCell ⟨gh, q, none⟩ (.bool b)) box gh (fun i => if i = q then b else H i) :=
  ⟨h.below.setCell (p := ⟨gh, q, none⟩) (Nat.le_of_lt h.h1) _, h.ob.other (a := ⟨gh, q, none⟩) (by show w.heap.size ≠ gh; have := h.h1; omega) _, h.oh.put hq b, h.h1⟩
theorem QA.cong {w W : World} {box : List Value} {gh : Nat} {H H' : Nat → Bool} (h : QA w W box gh H) (e : ∀ i, i < 144 → H i = H' i) : QA w W box gh H' := ⟨h.below, h.ob, h.oh.cong e, h.h1⟩
/-- And the array next. -/
structure QB (w W : World) (box : List Value) (gh gn : Nat) (H N : Nat → Bool) : Prop where
  a : QA w W box gh H
  on : ArrIs W gn N
  h2 : w.heap.size < gn
  ne : gh ≠ gn
theorem QB.step {w W W' : World} {box : List Value} {gh gn : Nat} {H N : Nat → Bool} (h : QB w W box gh gn H N) (hb : Below W.heap.size W W') : QB w W' box gh gn H N := ⟨h.a.step hb, h.on.step hb, h.h2, h.ne⟩
theorem QB.cong {w W : World} {box : List Value} {gh gn : Nat} {H N N' : Nat → Bool} (h : QB w W box gh gn H N) (e : ∀ i, i < 144 → N i = N' i) : QB w W box gh gn H N' := ⟨h.a, h.on.cong e, h.h2, h.ne⟩
theorem QB.put {w W : World} {box : List Value} {gh gn : Nat} {H N : Nat → Bool} (h : QB w W box gh gn H N) {q : Nat} (hq : q < 144) (b : Bool) : QB w (W.setCell ⟨gn, q, none⟩ (.bool b)) box gh gn H (fun i => if i = q then b else N i) :=
  ⟨⟨h.a.below.setCell (p := ⟨gn, q, none⟩) (Nat.le_of_lt h.h2) _, h.a.ob.other (a := ⟨gn, q, none⟩) (by show w.heap.size ≠ gn; have := h.h2; omega) _, h.a.oh.other h.ne _, h.a.h1⟩, h.on.put hq b, h.h2, h.ne⟩
theorem QA.made {w W : World} {box : List Value} {gh : Nat} {H : Nat → Bool} (h : QA w W box gh H) : QB w (W.alloc (.cells Try.zeroCells80 80)) box gh W.heap.size H (fun _ => false) :=
  ⟨h.step (Below.alloc1 _ _), by unfold ArrIs; rw [← zero144]; exact Go.Deep.blk_alloc_new _ _, h.ob.lt, by have := h.oh.own.lt; omega⟩
theorem QB.copy {w W : World} {box : List Value} {gh gn : Nat} {H N : Nat → Bool} (h : QB w W box gh gn H N) : QA w (W.setRow gh (bo 144 N).toArray) box gh N := by
  have hk : ∀ k, k ≠ gh → (W.setRow gh (bo 144 N).toArray).heap[k]? = W.heap[k]? := fun k hk => by
    unfold World.setRow
    simp only [Array.getElem?_modify]
    rw [if_neg (fun e => hk e.symm)]
  have hs : (W.setRow gh (bo 144 N).toArray).heap.size = W.heap.size := by unfold World.setRow; simp
  refine ⟨?_, ?_, setRow_heap _ _ _ _ _ _ h.a.oh, h.a.h1⟩
  · exact ⟨h.a.below.os, h.a.below.tape, h.a.below.output, by rw [hs]; exact h.a.below.size, fun k hkl => by rw [hk k (by have := h.a.h1; omega)]; exact h.a.below.block k hkl⟩
  · exact h.a.ob.of_block (hk _ (by have := h.a.h1; omega))

set_option maxRecDepth 10000 in
set_option maxHeartbeats 32000000 in
theorem implQuickest_any (s : Se) (dao : Option Addr) (dn dc : Nat) (fao : Option Addr) (fn fc : Nat) (x y z : Int) (w : World) (hD : IntsIn w (.slice dao dn dc) s.D) (hF : RClosed w (.slice fao fn fc) s.F) :
    Calls Try.prog 19 #[vSea s.wd s.hg (.slice dao dn dc) (.slice fao fn fc), .int .i64 x, .int .i64 y, .int .i64 z] w fun e w' => e = .returned (.tuple #[.int .i64 (quickest s x y z).1, .bool (quickest s x y z).2]) ∧ Below w.heap.size w w' := by
  have A := Below.alloc1 w (.cells #[.int .i64 s.wd, .int .i64 s.hg, .slice dao dn dc, .slice fao fn fc] 27)
  have O := ownV_alloc w #[.int .i64 s.wd, .int .i64 s.hg, .slice dao dn dc, .slice fao fn fc] 27
  have HOK := hide (implSeaOk_any s dao dn dc fao fn fc _ (hD.below A) (hF.below A))
  have HF := hide hF
  have HD := hide hD
  obtain ⟨dao', dc', eD, hdl, hdm, -⟩ := hD
  simp only [Value.slice.injEq] at eD
  obtain ⟨rfl, rfl, rfl⟩ := eD
  have HW := hide A
  have HO := hide O
  clear A O hF
  unfold vSea at HOK ⊢
  cases h1 : seaB s with
  | false =>
    have HN : Hid (quickest s x y z = (-1, false)) := quickest_no (by unfold quick0B; rw [h1]; rfl)
    rw [h1] at HOK
    go_enter Try.func19, Try.ntmps19
    go_wp2_with fail
    go_step3
    go_wp2_with fail
    refine (unhide HOK).mono ?_
    rintro e w1 ⟨rfl, hb⟩
    replace HW := hide (Below.step (unhide HW) hb)
    replace HO := hide (OwnV.step (unhide HO) hb)
    have b0 := (unhide HO).cell (i := 0) rfl
    have b1 := (unhide HO).cell (i := 1) rfl
    have b2 := (unhide HO).cell (i := 2) rfl
    have b3 := (unhide HO).cell (i := 3) rfl
    clear hb
    go_wp2
    (try simp only [Exit.noGoto_ret]); refine bodyPost_ret (v := .tuple #[.int .i64 (-1), .bool false]) (by simp [results, Try.results19, go_sem]) rfl ⟨by rw [unhide HN], unhide HW⟩
  | true =>
  rw [h1] at HOK
  have hn := seaB_n h1
  have HP1 := hide fun V => isOnSea_any s x dao dc (.slice fao fn fc) V hn
  have HP2 := hide fun V => isOnSea_any s y dao dc (.slice fao fn fc) V hn
  unfold vSea at HP1 HP2
  cases h2 : onB s x with
  | false =>
    have HN : Hid (quickest s x y z = (-1, false)) := quickest_no (by unfold quick0B; rw [h2]; simp)
    rw [h2] at HP1
    go_enter Try.func19, Try.ntmps19
    go_wp2_with fail
    go_step3
    go_wp2_with fail
    refine (unhide HOK).mono ?_
    rintro e w1 ⟨rfl, hb⟩
    replace HW := hide (Below.step (unhide HW) hb)
    replace HO := hide (OwnV.step (unhide HO) hb)
    have b0 := (unhide HO).cell (i := 0) rfl
    have b1 := (unhide HO).cell (i := 1) rfl
    have b2 := (unhide HO).cell (i := 2) rfl
    have b3 := (unhide HO).cell (i := 3) rfl
    clear hb
    go_wp2_with fail
    refine (unhide HP1 _).mono ?_
    rintro e w2 ⟨rfl, hb⟩
    replace HW := hide (Below.step (unhide HW) hb)
    replace HO := hide (OwnV.step (unhide HO) hb)
    have f0 := (unhide HO).cell (i := 0) rfl
    have f1 := (unhide HO).cell (i := 1) rfl
    have f2 := (unhide HO).cell (i := 2) rfl
    have f3 := (unhide HO).cell (i := 3) rfl
    clear hb
    go_wp2
    (try simp only [Exit.noGoto_ret]); refine bodyPost_ret (v := .tuple #[.int .i64 (-1), .bool false]) (by simp [results, Try.results19, go_sem]) rfl ⟨by rw [unhide HN], unhide HW⟩
  | true =>
  rw [h2] at HP1
  cases h3 : onB s y with
  | false =>
    have HN : Hid (quickest s x y z = (-1, false)) := quickest_no (by unfold quick0B; rw [h3]; simp)
    rw [h3] at HP2
    go_enter Try.func19, Try.ntmps19
    go_wp2_with fail
    go_step3
    go_wp2_with fail
    refine (unhide HOK).mono ?_
    rintro e w1 ⟨rfl, hb⟩
    replace HW := hide (Below.step (unhide HW) hb)
    replace HO := hide (OwnV.step (unhide HO) hb)
    have b0 := (unhide HO).cell (i := 0) rfl
    have b1 := (unhide HO).cell (i := 1) rfl
    have b2 := (unhide HO).cell (i := 2) rfl
    have b3 := (unhide HO).cell (i := 3) rfl
    clear hb
    go_wp2_with fail
    refine (unhide HP1 _).mono ?_
    rintro e w2 ⟨rfl, hb⟩
    replace HW := hide (Below.step (unhide HW) hb)
    replace HO := hide (OwnV.step (unhide HO) hb)
    have f0 := (unhide HO).cell (i := 0) rfl
    have f1 := (unhide HO).cell (i := 1) rfl
    have f2 := (unhide HO).cell (i := 2) rfl
    have f3 := (unhide HO).cell (i := 3) rfl
    clear hb
    go_wp2_with fail
    refine (unhide HP2 _).mono ?_
    rintro e w3 ⟨rfl, hb⟩
    replace HW := hide (Below.step (unhide HW) hb)
    replace HO := hide (OwnV.step (unhide HO) hb)
    have g0 := (unhide HO).cell (i := 0) rfl
    have g1 := (unhide HO).cell (i := 1) rfl
    have g2 := (unhide HO).cell (i := 2) rfl
    have g3 := (unhide HO).cell (i := 3) rfl
    clear hb
    go_wp2
    (try simp only [Exit.noGoto_ret]); refine bodyPost_ret (v := .tuple #[.int .i64 (-1), .bool false]) (by simp [results, Try.results19, go_sem]) rfl ⟨by rw [unhide HN], unhide HW⟩
  | true =>
  rw [h3] at HP2
  cases h4 : inB z 0 200 with
  | false =>
    have HN : Hid (quickest s x y z = (-1, false)) := quickest_no (by unfold quick0B; rw [h4]; simp)
    go_enter Try.func19, Try.ntmps19
    go_wp2_with fail
    go_step3
    go_wp2_with fail
    refine (unhide HOK).mono ?_
    rintro e w1 ⟨rfl, hb⟩
    replace HW := hide (Below.step (unhide HW) hb)
    replace HO := hide (OwnV.step (unhide HO) hb)
    have b0 := (unhide HO).cell (i := 0) rfl
    have b1 := (unhide HO).cell (i := 1) rfl
    have b2 := (unhide HO).cell (i := 2) rfl
    have b3 := (unhide HO).cell (i := 3) rfl
    clear hb
    go_wp2_with fail
    refine (unhide HP1 _).mono ?_
    rintro e w2 ⟨rfl, hb⟩
    replace HW := hide (Below.step (unhide HW) hb)
    replace HO := hide (OwnV.step (unhide HO) hb)
    have f0 := (unhide HO).cell (i := 0) rfl
    have f1 := (unhide HO).cell (i := 1) rfl
    have f2 := (unhide HO).cell (i := 2) rfl
    have f3 := (unhide HO).cell (i := 3) rfl
    clear hb
    go_wp2_with fail
    refine (unhide HP2 _).mono ?_
    rintro e w3 ⟨rfl, hb⟩
    replace HW := hide (Below.step (unhide HW) hb)
    replace HO := hide (OwnV.step (unhide HO) hb)
    have g0 := (unhide HO).cell (i := 0) rfl
    have g1 := (unhide HO).cell (i := 1) rfl
    have g2 := (unhide HO).cell (i := 2) rfl
    have g3 := (unhide HO).cell (i := 3) rfl
    clear hb
    go_wp2_with (go_at_call 47; refine (within_any _ _ _ _).mono ?_; rintro e w' ⟨rfl, h9⟩; have h8 := h9.symm; subst h8; clear h9)
    (try simp only [Exit.noGoto_ret]); refine bodyPost_ret (v := .tuple #[.int .i64 (-1), .bool false]) (by simp [results, Try.results19, go_sem]) rfl ⟨by rw [unhide HN], unhide HW⟩
  | true =>
  obtain ⟨xi, rfl, hxi⟩ : ∃ q : Nat, x = (q : Int) ∧ q < s.D.length := by
    unfold onB at h2
    obtain ⟨a, b⟩ := inB_true h2
    exact ⟨x.toNat, by omega, by omega⟩
  obtain ⟨yi, rfl, hyi⟩ : ∃ q : Nat, y = (q : Int) ∧ q < s.D.length := by
    unfold onB at h3
    obtain ⟨a, b⟩ := inB_true h3
    exact ⟨y.toNat, by omega, by omega⟩
  obtain ⟨zi, rfl, hzi⟩ : ∃ q : Nat, z = (q : Int) ∧ q ≤ 200 := by
    obtain ⟨a, b⟩ := inB_true h4
    exact ⟨z.toNat, by omega, by omega⟩
  have HY : Hid (quickest s (xi : Int) (yi : Int) (zi : Int) = quickOf s xi yi zi) := by show _ = _; unfold quickest quick0B; rw [h1, h2, h3, h4]; rfl
  have hxiI : (xi : Int) < s.D.length := by omega
  have hyiI : (yi : Int) < s.D.length := by omega
  have hle := hn.le
  have hleI : (s.D.length : Int) ≤ 144 := by omega
  have HN := hide hn
  have HOP := hide fun V h h' => isOpen_any s xi 0 dao s.D.length dc fao fn fc V hn h h' hxi
  unfold vSea at HOP
  clear hn
  go_enter Try.func19, Try.ntmps19
  go_wp2_with fail
  go_step3
  go_wp2_with fail
  refine (unhide HOK).mono ?_
  rintro e w1 ⟨rfl, hb⟩
  replace HW := hide (Below.step (unhide HW) hb)
  replace HO := hide (OwnV.step (unhide HO) hb)
  have b0 := (unhide HO).cell (i := 0) rfl
  have b1 := (unhide HO).cell (i := 1) rfl
  have b2 := (unhide HO).cell (i := 2) rfl
  have b3 := (unhide HO).cell (i := 3) rfl
  clear hb
  go_wp2_with fail
  refine (unhide HP1 _).mono ?_
  rintro e w2 ⟨rfl, hb⟩
  replace HW := hide (Below.step (unhide HW) hb)
  replace HO := hide (OwnV.step (unhide HO) hb)
  have f0 := (unhide HO).cell (i := 0) rfl
  have f1 := (unhide HO).cell (i := 1) rfl
  have f2 := (unhide HO).cell (i := 2) rfl
  have f3 := (unhide HO).cell (i := 3) rfl
  clear hb
  go_wp2_with fail
  refine (unhide HP2 _).mono ?_
  rintro e w3 ⟨rfl, hb⟩
  replace HW := hide (Below.step (unhide HW) hb)
  replace HO := hide (OwnV.step (unhide HO) hb)
  have g0 := (unhide HO).cell (i := 0) rfl
  have g1 := (unhide HO).cell (i := 1) rfl
  have g2 := (unhide HO).cell (i := 2) rfl
  have g3 := (unhide HO).cell (i := 3) rfl
  clear hb
  go_wp2_with (go_at_call 47; refine (within_any _ _ _ _).mono ?_; rintro e w' ⟨rfl, h9⟩; have h8 := h9.symm; subst h8; clear h9)
  refine (unhide HOP _ ((unhide HD).below (unhide HW)) ((unhide HF).below (unhide HW))).mono ?_
  rintro e w4 ⟨rfl, hb⟩
  replace HW := hide (Below.step (unhide HW) hb)
  replace HO := hide (OwnV.step (unhide HO) hb)
  have k0 := (unhide HO).cell (i := 0) rfl
  have k1 := (unhide HO).cell (i := 1) rfl
  have k2 := (unhide HO).cell (i := 2) rfl
  have k3 := (unhide HO).cell (i := 3) rfl
  clear hb
  clear b0 b1 b2 b3 f0 f1 f2 f3 g0 g1 g2 g3 HOK HP1 HP2 HOP h1 h2 h3 h4
  cases h5 : openB s xi 0 with
  | false =>
    have HR := hide ((unhide HY).trans (quickOf_no (fun r _ => never h5 r yi)))
    go_wp2
    (try simp only [Exit.noGoto_ret]); refine bodyPost_ret (v := .tuple #[.int .i64 (-1), .bool false]) (by simp [results, Try.results19, go_sem]) rfl ⟨by rw [unhide HR], unhide HW⟩
  | true =>
  by_cases hxy : xi = yi
  · have HR : Hid (quickest s (xi : Int) (yi : Int) (zi : Int) = (0, true)) := (unhide HY).trans (quickOf_yes (t := 0) (Nat.zero_le _) (fun r hr => by omega) (by unfold hereN; rw [← hxy, h5]; simp))
    have d1 : ((xi : Int) == (yi : Int)) = true := by simp; omega
    have d1' : (xi == yi) = true := by simp; omega
    clear hxy
    go_wp2
    (try simp only [Exit.noGoto_ret]); refine bodyPost_ret (v := .tuple #[.int .i64 0, .bool true]) (by simp [results, Try.results19, go_sem]) rfl ⟨by rw [unhide HR], unhide HW⟩
  have d1 : ((xi : Int) == (yi : Int)) = false := by simp; omega
  have d1' : (xi == yi) = false := by simp; omega
  have H00 : Hid (hereN s xi 0 yi = false) := by show _ = _; unfold hereN; rw [decide_eq_false (fun e => hxy e.symm)]; rfl
  clear hxy
  go_upto_region 9 with (fail)
  have hgb : w.heap.size < w4.heap.size := (unhide HO).lt
  have HQ : Hid (QA w (w4.alloc (.cells Try.zeroCells80 80)) [.int .i64 s.wd, .int .i64 s.hg, .slice dao s.D.length dc, .slice fao fn fc] w4.heap.size (fun _ => false)) := ⟨Below.step (unhide HW) (Below.alloc1 _ _), (unhide HO).alloc _, by unfold ArrIs; rw [← zero144]; exact Go.Deep.blk_alloc_new _ _, hgb⟩
  obtain ⟨W0, eW⟩ : ∃ z, z = w4.alloc (.cells Try.zeroCells80 80) := ⟨_, rfl⟩
  rw [← eW] at HQ ⊢
  clear eW HO HW k0 k1 k2 k3
  generalize w4.heap.size = gh at *
  have hx144 : xi < 144 := by omega
  have hx144I : (xi : Int) < 144 := by omega
  have cx := (unhide HQ).oh.own.cell (i := xi) (bo_at hx144)
  have fz := (unhide HQ).oh.own.frozen
  have HQ1 := hide (((unhide HQ).put hx144 true).cong (H' := hereN s xi 0) (fun i _ => by
    unfold hereN
    by_cases e : i = xi
    · rw [if_pos e, e, h5]; simp
    · rw [if_neg e, decide_eq_false e]; rfl))
  clear h5
  go_wp2
  go_step3
  go_wp2
  clear cx fz HQ
  have HZ : Hid (∀ r, r < 0 + 1 → hereN s xi r yi = false) := fun r hr => by
    have e : r = 0 := by omega
    rw [e]
    exact unhide H00
  go_loopg [10, 12] zi (fun g fv i wr => ∃ t : Nat, t ≤ zi ∧ g = zi - t ∧ i = .int .i64 ((t : Int) + 1) ∧ fv = .int .i64 (-1) ∧ Hid (QA w wr [.int .i64 s.wd, .int .i64 s.hg, .slice dao s.D.length dc, .slice fao fn fc] gh (hereN s xi t)) ∧ Hid (∀ r, r < t + 1 → hereN s xi r yi = false))
  case atStart => exact ⟨0, Nat.zero_le _, rfl, rfl, rfl, HQ1, HZ⟩
  case round =>
    clear HQ1
    obtain ⟨t, ht, rfl, rfl, rfl, HQ, HS⟩ := hrel
    by_cases htz : t < zi
    case neg =>
      have HR := hide ((unhide HY).trans (quickOf_no (fun r hr => unhide HS r (by omega))))
      have hti : ¬ (t : Int) + 1 ≤ (zi : Int) := by omega
      have HB := hide (unhide HQ).below
      clear HS
      go_wp2
      (try simp only [Exit.noGoto_ret]); refine bodyPost_ret (v := .tuple #[.int .i64 (-1), .bool false]) (by simp [results, Try.results19, go_sem]) rfl ⟨by rw [unhide HR], unhide HB⟩
    have hti : (t : Int) + 1 ≤ (zi : Int) := by omega
    have HQ3 := hide ((unhide HQ).made.cong (N' := nN (hereN s xi (t + 1)) 0) (fun i _ => nN_zero _ i))
    go_upto_region 14 with (fail)
    obtain ⟨V0, eV⟩ : ∃ z, z = wr.alloc (.cells Try.zeroCells80 80) := ⟨_, rfl⟩
    rw [← eV] at HQ3 ⊢
    clear eV HQ
    generalize wr.heap.size = gn at *
    clear wr
    have k2 := (unhide HQ3).a.ob.cell (i := 2) rfl
    go_wp2
    clear k2
    have HYI : Hid (yi < 0 → hereN s xi (t + 1) yi = false) := fun h => by omega
    go_loopg [10, 52] s.D.length (fun g fv i wr2 => ∃ p : Nat, p ≤ s.D.length ∧ g = s.D.length - p ∧ i = .int .i64 p ∧ fv = .int .i64 (-1) ∧ Hid (QB w wr2 [.int .i64 s.wd, .int .i64 s.hg, .slice dao s.D.length dc, .slice fao fn fc] gh gn (hereN s xi t) (nN (hereN s xi (t + 1)) p)) ∧ Hid (yi < p → hereN s xi (t + 1) yi = false))
    case atStart => exact ⟨0, Nat.zero_le _, rfl, rfl, rfl, HQ3, HYI⟩
    case round =>
      clear HQ3 HYI
      obtain ⟨p, hp, rfl, rfl, rfl, HQ3, HYI⟩ := hrel
      by_cases hpn : p < s.D.length
      case neg =>
        have hpi : ¬ (p : Int) < s.D.length := by omega
        have HS' : Hid (∀ r, r < t + 1 + 1 → hereN s xi r yi = false) := fun r hr => by
          by_cases e : r = t + 1
          · rw [e]; exact unhide HYI (by omega)
          · exact unhide HS r (by omega)
        have HQ4 := hide ((unhide HQ3).cong (N' := hereN s xi (t + 1)) (fun i _ => by
          unfold nN
          by_cases hi : i < p
          · simp [hi]
          · rw [here_out hxi (t + 1) (by omega)]; simp))
        have hld := run_loadVar_row (P := Try.prog) wr gn _ 80 _ _ _ (unhide HQ4).on Try.underlying80 rfl (by rw [info144]; simp [bo_len])
        have hst := run_storeVar_row (P := Try.prog) wr gh _ 80 _ (bo 144 (hereN s xi (t + 1))).toArray (unhide HQ4).a.oh (by rw [info144]; simp [bo_len]) (by simp [bo_len]) (by simp [bo, Value.oneCell'])
        have HQ5 := hide (unhide HQ4).copy
        clear HQ3 HQ4 HS HYI
        generalize (bo 144 (hereN s xi (t + 1))).toArray = cs at *
        go_upto_region 22 with (fail)
        go_step
        refine wpList_loadW rfl _ _ rfl ⟨gn, 0, none⟩ rfl (.agg cs) hld ?_
        refine wpList_storeW rfl _ _ _ rfl ⟨gh, 0, none⟩ rfl (.agg cs) rfl hst ?_
        clear hld hst
        go_wp2
        go_roundg (zi - (t + 1))
        case measure => omega
        case rel => exact ⟨t + 1, by omega, rfl, by go_num, rfl, HQ5, HS'⟩
      have hpi : (p : Int) < s.D.length := by omega
      have hp144 : (p : Int) < 144 := by omega
      have a0 := (unhide HQ3).a.ob.cell (i := 0) rfl
      have a1 := (unhide HQ3).a.ob.cell (i := 1) rfl
      have a2 := (unhide HQ3).a.ob.cell (i := 2) rfl
      have a3 := (unhide HQ3).a.ob.cell (i := 3) rfl
      have HOP := hide (isOpen_any s p (t + 1) dao s.D.length dc fao fn fc wr (unhide HN) ((unhide HD).below (unhide HQ3).a.below) ((unhide HF).below (unhide HQ3).a.below) hpn)
      rw [show ((t + 1 : Nat) : Int) = (t : Int) + 1 by omega] at HOP
      have HCM := hide fun V h h' => comesTo_any s p dao s.D.length dc (.slice fao fn fc) gh (hereN s xi t) V (unhide HN) h h' hpn
      unfold vSea at HOP HCM
      have HEQ : Hid (hereN s xi (t + 1) p = (openB s p (t + 1) && comeH s (hereN s xi t) p)) := nextH_eq (unhide HN) _ t hpn
      cases h6 : openB s p (t + 1) with
      | false =>
        rw [h6] at HOP HEQ
        have HNOT : Hid (hereN s xi (t + 1) p = false) := by show _ = _; rw [unhide HEQ]; rfl
        clear h6 HEQ HCM
        go_wp2_with fail
        refine (unhide HOP).mono ?_
        rintro e w6 ⟨rfl, hb⟩
        replace HQ3 := hide ((unhide HQ3).step hb)
        clear hb HOP
        go_wp2
        go_roundg (s.D.length - (p + 1))
        case measure => omega
        case rel => exact ⟨p + 1, by omega, rfl, by go_num, rfl, hide ((unhide HQ3).cong (fun i _ => nN_no (unhide HNOT) i)), fun h => by
          by_cases e : p = yi
          · rw [← e]; exact unhide HNOT
          · exact unhide HYI (by omega)⟩
      | true =>
        rw [h6] at HOP HEQ
        clear h6
        go_wp2_with fail
        refine (unhide HOP).mono ?_
        rintro e w6 ⟨rfl, hb⟩
        replace HQ3 := hide ((unhide HQ3).step hb)
        clear hb HOP
        have f0 := (unhide HQ3).a.ob.cell (i := 0) rfl
        have f1 := (unhide HQ3).a.ob.cell (i := 1) rfl
        have f2 := (unhide HQ3).a.ob.cell (i := 2) rfl
        have f3 := (unhide HQ3).a.ob.cell (i := 3) rfl
        go_wp2_with fail
        refine (unhide HCM _ ((unhide HD).below (unhide HQ3).a.below) (unhide HQ3).a.oh).mono ?_
        rintro e w7 ⟨rfl, hb⟩
        replace HQ3 := hide ((unhide HQ3).step hb)
        clear hb HCM
        cases h7 : comeH s (hereN s xi t) p with
        | false =>
          rw [h7] at HEQ
          have HNOT : Hid (hereN s xi (t + 1) p = false) := unhide HEQ
          clear h7 HEQ
          go_wp2
          go_roundg (s.D.length - (p + 1))
          case measure => omega
          case rel => exact ⟨p + 1, by omega, rfl, by go_num, rfl, hide ((unhide HQ3).cong (fun i _ => nN_no (unhide HNOT) i)), fun h => by
            by_cases e : p = yi
            · rw [← e]; exact unhide HNOT
            · exact unhide HYI (by omega)⟩
        | true =>
          rw [h7] at HEQ
          have HYES : Hid (hereN s xi (t + 1) p = true) := unhide HEQ
          clear h7 HEQ
          by_cases hpy : p = yi
          · have HR : Hid (quickest s (xi : Int) (yi : Int) (zi : Int) = ((t : Int) + 1, true)) := by
              have h := (unhide HY).trans (quickOf_yes (t := t + 1) (by omega) (unhide HS) (by rw [← hpy]; exact unhide HYES))
              rw [show ((t + 1 : Nat) : Int) = (t : Int) + 1 by omega] at h
              exact h
            have d1 : ((p : Int) == (yi : Int)) = true := by simp; omega
            have d1' : (p == yi) = true := by simp; omega
            have d2 : ((t : Int) + 1 != -1) = true := by simp; omega
            have d2' : ((t : Int) + 1 == -1) = false := by simp; omega
            have HB := hide (unhide HQ3).a.below
            clear hpy HYI HS HYES HQ3
            go_wp2
            (try simp only [Exit.noGoto_ret]); refine bodyPost_ret (v := .tuple #[.int .i64 ((t : Int) + 1), .bool true]) (by simp [results, Try.results19, go_sem]) rfl ⟨by rw [unhide HR], unhide HB⟩
          · have d1 : ((p : Int) == (yi : Int)) = false := by simp; omega
            have d1' : (p == yi) = false := by simp; omega
            have cq := (unhide HQ3).on.own.cell (i := p) (bo_at (show p < 144 by omega))
            have fz := (unhide HQ3).on.own.frozen
            have HQn := hide (((unhide HQ3).put (show p < 144 by omega) true).cong (fun i _ => nN_yes (unhide HYES) i))
            have HYI' : Hid (yi < p + 1 → hereN s xi (t + 1) yi = false) := fun h => unhide HYI (by omega)
            clear hpy HYI HQ3
            go_wp2
            go_roundg (s.D.length - (p + 1))
            case measure => omega
            case rel => exact ⟨p + 1, by omega, rfl, by go_num, rfl, HQn, HYI'⟩

end Go.Proofs.Ytahgblhmdhjahaa
