/- The contract of the program's Cheapest. Written by wip/mkdj.py. -/
import Derived.Test.YtdpcacfgbjllhaaHpI
import Derived.Test.YtdpcacfgbjllhaaDjM
import Derived.Test.YtdpcacfgbjllhaaRpA
import Derived.Test.YtdpcacfgbjllhaaImSe1
import Derived.Test.YtdpcacfgbjllhaaImSeaOk
import Derived.Test.YtdpcacfgbjllhaaSeJ
import Derived.Deep.RegionHeld3
namespace Go.Proofs.Ytdpcacfgbjllhaa
open Go.RowKit

theorem QI.kept {T : Nat → Prop} {w W W' : World} {box : List Value} {g : Nat} {M : List Int} (h : QI w W box g M) (hk : Kept T W W') (h1 : ¬ T w.heap.size) (h2 : ¬ T g) (h3 : ∀ b, T b → w.heap.size ≤ b) : QI w W' box g M :=
  ⟨h.below.trans (hk.below h.below.size h3), h.ob.kept hk h1, h.oo.kept hk h2, h.h1⟩
/-- The sea's box, the costs, and the frontier at block gf. -/
structure DQ (w W : World) (box : List Value) (gh gf : Nat) (M : List Int) (sv : Value) (n : Nat) (L : List Rc) : Prop where
  q : QI w W box gh M
  fr : FrN W (gf + 1) gf sv n L
  hg : gh < gf
theorem DQ.step {w W W' : World} {box : List Value} {gh gf : Nat} {M : List Int} {sv : Value} {n : Nat} {L : List Rc} (h : DQ w W box gh gf M sv n L) (hb : Below W.heap.size W W') : DQ w W' box gh gf M sv n L := ⟨h.q.step hb, h.fr.below hb, h.hg⟩
theorem DQ.lt {w W : World} {box : List Value} {gh gf : Nat} {M : List Int} {sv : Value} {n : Nat} {L : List Rc} (h : DQ w W box gh gf M sv n L) : w.heap.size < gh ∧ gf < W.heap.size := ⟨h.q.h1, h.fr.box.lt⟩
theorem DQ.put {w W : World} {box : List Value} {gh gf : Nat} {M : List Int} {sv : Value} {n : Nat} {L : List Rc} (h : DQ w W box gh gf M sv n L) {p : Nat} (hp : p < M.length) (v : Int) : DQ w (W.setCell ⟨gh, p, none⟩ (.int .i64 v)) box gh gf (M.set p v) sv n L := by
  have h1 := h.hg
  refine ⟨h.q.put hp v, ⟨h.fr.box.other (a := ⟨gh, p, none⟩) (by show gf ≠ gh; omega) _, ownsRow_setCell_other h.fr.row (a := ⟨gh, p, none⟩) (fun e => ?_) _, h.fr.len, h.fr.lt⟩, h.hg⟩
  have := (h.fr.own e).1
  simp only at this
  omega
theorem Kept.setOn {T : Nat → Prop} {w w' : World} (h : Kept T w w') (p : Addr) (hp : T p.block) (u : Value) : Kept T w (w'.setCell p u) := h.setCell hp u
theorem rc_mem {L : List Rc} (h : 0 < L.length) : L.getD 0 (0, 0) ∈ L := by
  rw [getD_lt h]
  exact List.getElem_mem h
theorem rc_least {L : List Rc} (h : Hp L L.length) {e : Rc} (he : e ∈ L) : (L.getD 0 (0, 0)).1 ≤ e.1 := by
  obtain ⟨i, hi, rfl⟩ := List.mem_iff_getElem.1 he
  have := h.least i hi
  rw [getD_lt hi] at this
  unfold rlt at this
  omega
theorem one_list {L : List Rc} {z : Rc} (h : 1 = L.length) (hm : ∀ e, e ∈ L ↔ e ∈ ([] : List Rc) ∨ e = z) : L = [z] := by
  match L, h with
  | [a], _ =>
    have := (hm a).1 (by simp)
    simp at this
    rw [this]
  | [], h => simp at h
  | a :: b :: t, h => simp at h
theorem OwnSl.at {B : Nat} {w : World} {a : Option Addr} {n cp : Nat} {xs : List Int} (h : OwnSl B w (.slice a n cp) xs) : n = xs.length := by
  obtain ⟨a', c', e, -⟩ := h
  simp only [Value.slice.injEq] at e
  exact e.2.1
theorem OwnSl.row {B : Nat} {w : World} {a : Option Addr} {n cp k : Nat} {xs : List Int} (h : OwnSl B w (.slice a n cp) xs) (hk : k < xs.length) : ∃ g, a = some ⟨g, 0, none⟩ ∧ B ≤ g ∧ OwnV w g (ints xs) := by
  obtain ⟨a', c', e, -, -, h3⟩ := h
  simp only [Value.slice.injEq] at e
  rw [e.1]
  exact h3 (fun h => by rw [h] at hk; simp at hk)
theorem nbs_len (wd n q : Int) : (nbs wd n q).length ≤ 4 := by
  unfold nbs
  simp only [List.length_append]
  split <;> split <;> split <;> split <;> simp

set_option maxRecDepth 100000 in
set_option maxHeartbeats 32000000 in
theorem implCheapest_any (s : Se) (dao : Option Addr) (dn dc : Nat) (fao : Option Addr) (fn fc : Nat) (x : Int) (w : World) (hD : IntsIn w (.slice dao dn dc) s.D) (hF : RClosed w (.slice fao fn fc) s.F) :
    Calls Try.prog 8 #[vSea s.wd s.hg (.slice dao dn dc) (.slice fao fn fc), .int .i64 x] w fun e w' => CheapPost s x w w' e := by
  have A := Below.alloc1 w (.cells #[.int .i64 s.wd, .int .i64 s.hg, .slice dao dn dc, .slice fao fn fc] 27)
  have O := ownV_alloc w #[.int .i64 s.wd, .int .i64 s.hg, .slice dao dn dc, .slice fao fn fc] 27
  have HOK := hide (implSeaOk_any s dao dn dc fao fn fc _ (hD.below A) (hF.below A))
  have HD := hide hD
  obtain ⟨dao', dc', eD, hdl, hdm, hdc⟩ := hD
  simp only [Value.slice.injEq] at eD
  obtain ⟨rfl, rfl, rfl⟩ := eD
  have HDC := hide hdc
  have HW := hide A
  have HO := hide O
  have b0 := O.cell (i := 0) rfl
  have b1 := O.cell (i := 1) rfl
  have b2 := O.cell (i := 2) rfl
  have b3 := O.cell (i := 3) rfl
  clear A O hdc hF
  unfold vSea at HOK ⊢
  cases h1 : seaB s with
  | false =>
    have HC : Hid (CheapAns s x [] false) := Or.inr ⟨by rw [h1]; rfl, rfl, rfl⟩
    rw [h1] at HOK
    go_enter Try.func8, Try.ntmps8
    go_wp2_with fail
    refine (unhide HOK).mono ?_
    rintro e w1 ⟨rfl, hb⟩
    replace HW := hide (Below.step (unhide HW) hb)
    clear hb HOK
    go_wp2
    refine bodyPost_ret (v := .tuple #[.slice none 0 0, .bool false]) (by simp [results, Try.results8, go_sem]) rfl (cheapPost_mk (unhide HC) ⟨none, 0, rfl, Nat.le_refl _, Nat.zero_le _, fun h => absurd rfl h⟩ (unhide HW))
  | true =>
  rw [h1] at HOK
  have hn := seaB_n h1
  have HPL := hide fun V => isOnSea_any s x dao dc (.slice fao fn fc) V hn
  unfold vSea at HPL
  cases h2 : onB s x with
  | false =>
    have HC : Hid (CheapAns s x [] false) := Or.inr ⟨by rw [h1, h2]; rfl, rfl, rfl⟩
    rw [h2] at HPL
    go_enter Try.func8, Try.ntmps8
    go_wp2_with fail
    refine (unhide HOK).mono ?_
    rintro e w1 ⟨rfl, hb⟩
    replace HW := hide (Below.step (unhide HW) hb)
    replace HO := hide (OwnV.step (unhide HO) hb)
    clear hb HOK b0 b1 b2 b3
    have b0 := (unhide HO).cell (i := 0) rfl
    have b1 := (unhide HO).cell (i := 1) rfl
    have b2 := (unhide HO).cell (i := 2) rfl
    have b3 := (unhide HO).cell (i := 3) rfl
    go_wp2_with fail
    refine (unhide HPL _).mono ?_
    rintro e w2 ⟨rfl, hb⟩
    replace HW := hide (Below.step (unhide HW) hb)
    clear hb HPL
    go_wp2
    refine bodyPost_ret (v := .tuple #[.slice none 0 0, .bool false]) (by simp [results, Try.results8, go_sem]) rfl (cheapPost_mk (unhide HC) ⟨none, 0, rfl, Nat.le_refl _, Nat.zero_le _, fun h => absurd rfl h⟩ (unhide HW))
  | true =>
  rw [h2] at HPL
  obtain ⟨xi, rfl, hxi⟩ : ∃ q : Nat, x = (q : Int) ∧ q < s.D.length := by
    have h3 := h2
    unfold onB at h3
    obtain ⟨a, b⟩ := inB_true h3
    exact ⟨x.toNat, by omega, by omega⟩
  obtain ⟨bd, od, rfl, hcd⟩ := unhide HDC xi hxi
  have hxiI : (xi : Int) < s.D.length := by omega
  have hle := hn.le
  have hleI : (s.D.length : Int) ≤ 144 := by omega
  obtain ⟨dx, edx⟩ : ∃ c, s.D.getD xi 0 = c := ⟨_, rfl⟩
  have EDX := hide edx
  have hdx0 := (hn.cost xi hxi).1
  rw [edx] at hdx0
  have HN := hide hn
  have H1 := hide h1
  have H12 : Hid ((seaB s && onB s (xi : Int)) = true) := by show _ = _; rw [h1, h2]; rfl
  have HSA := hide fun V h q => isSailed_any s q (some ⟨bd, od, none⟩) s.D.length dc (.slice fao fn fc) V hn h
  have HNB := hide fun V h q => neighbours_any s q (some ⟨bd, od, none⟩) s.D.length dc (.slice fao fn fc) V hn h
  unfold vSea at HSA HNB
  have hsx : sailB s (xi : Int) = !decide (dx = 0) := by unfold sailB; rw [h2]; show (true && !decide (s.D.getD xi 0 = 0)) = _; rw [edx]; rfl
  clear hcd edx hn h1 h2
  go_enter Try.func8, Try.ntmps8
  go_wp2_with fail
  refine (unhide HOK).mono ?_
  rintro e w1 ⟨rfl, hb⟩
  replace HW := hide (Below.step (unhide HW) hb)
  replace HO := hide (OwnV.step (unhide HO) hb)
  clear hb HOK b0 b1 b2 b3
  have b0 := (unhide HO).cell (i := 0) rfl
  have b1 := (unhide HO).cell (i := 1) rfl
  have b2 := (unhide HO).cell (i := 2) rfl
  have b3 := (unhide HO).cell (i := 3) rfl
  go_wp2_with fail
  refine (unhide HPL _).mono ?_
  rintro e w2 ⟨rfl, hb⟩
  replace HW := hide (Below.step (unhide HW) hb)
  replace HO := hide (OwnV.step (unhide HO) hb)
  clear hb HPL b0 b1 b2 b3
  have b2 := (unhide HO).cell (i := 2) rfl
  have A1 := Below.alloc1 w2 (.cells #[.int .i64 (-1)] 3)
  have HRE := hide (repeat1_any w2.heap.size 0 1 (-1) s.D.length (w2.alloc (.cells #[.int .i64 (-1)] 3)) ((ownV_alloc w2 #[.int .i64 (-1)] 3).cell (i := 0) rfl) (by omega) (by omega))
  replace HW := hide (Below.step (unhide HW) A1)
  replace HO := hide (OwnV.step (unhide HO) A1)
  have b2' := (unhide HO).cell (i := 2) rfl
  clear A1
  go_wp2_with fail
  refine (unhide HRE).mono ?_
  rintro e w3 ⟨gh, rfl, hgh, hoh, hb⟩
  replace HW := hide (Below.step (unhide HW) hb)
  replace HO := hide (OwnV.step (unhide HO) hb)
  have hghs : w.heap.size < gh := by have h8 : w.heap.size < w2.heap.size := lt_of_cell b2; simp only [World.size_alloc] at hgh; omega
  have HQ : Hid (QI w w3 [.int .i64 s.wd, .int .i64 s.hg, .slice (some ⟨bd, od, none⟩) s.D.length dc, .slice fao fn fc] gh (List.replicate s.D.length (-1))) := ⟨unhide HW, unhide HO, hoh, hghs⟩
  clear hb HRE b2 b2' hoh hgh HW HO
  have hgl := (unhide HQ).oo.lt
  have A1 := Below.alloc1 w3 (.cells #[.slice none 0 0] 61)
  have HDQ : Hid (DQ w (w3.alloc (.cells #[.slice none 0 0] 61)) [.int .i64 s.wd, .int .i64 s.hg, .slice (some ⟨bd, od, none⟩) s.D.length dc, .slice fao fn fc] gh w3.heap.size (List.replicate s.D.length (-1)) (.slice none 0 0) 0 []) :=
    ⟨(unhide HQ).step A1, ⟨ownV_alloc w3 #[.slice none 0 0] 61, ⟨rfl, Or.inl ⟨rfl, rfl⟩⟩, rfl, by omega⟩, hgl⟩
  have HO := hide (unhide HDQ).q.ob
  have b0 := (unhide HO).cell (i := 0) rfl
  have b1 := (unhide HO).cell (i := 1) rfl
  have b2 := (unhide HO).cell (i := 2) rfl
  have b3 := (unhide HO).cell (i := 3) rfl
  have HSA1 := hide (unhide HSA _ ((unhide HD).below (unhide HDQ).q.below) (xi : Int))
  rw [hsx] at HSA1
  clear A1 HQ
  go_wp2_with fail
  refine (unhide HSA1).mono ?_
  rintro e w4 ⟨rfl, hb⟩
  replace HDQ := hide ((unhide HDQ).step hb)
  have hz3 := hb.size
  simp only [World.size_alloc] at hz3
  generalize w3.heap.size = gf at *
  clear hb HSA1 b0 b1 b2 b3 HO
  by_cases hd0 : dx = 0
  · have HC : Hid (CheapAns s (xi : Int) (List.replicate s.D.length (-1)) true) := Or.inl ⟨unhide H12, rfl, by simp, Or.inl ⟨by show s.D.getD xi 0 = 0; rw [unhide EDX]; exact hd0, rfl⟩⟩
    have HOW := hide ((unhide HDQ).q.own (by simp; exact hle))
    rw [List.length_replicate] at HOW
    have HWW := hide (unhide HDQ).q.below
    have c0 := (unhide HDQ).fr.box.cell (i := 0) rfl
    have hd1 : (!decide (dx = 0)) = false := by simp [hd0]
    rw [hd1]
    have HLE := hide (lenR_any none 0 0 w4)
    clear hd1 hd0 hsx
    go_wp2
    go_loopg [8] 0 (fun g v8 wr => wr = w4)
    case atStart => rfl
    case round =>
      subst hrel
      go_wp2_with fail
      refine (unhide HLE).mono ?_
      rintro e w' ⟨rfl, h9⟩
      subst h9
      go_wp2
      refine bodyPost_ret (v := .tuple #[.slice (some ⟨gh, 0, none⟩) s.D.length s.D.length, .bool true]) (by simp [results, Try.results8, go_sem]) rfl (cheapPost_mk (unhide HC) (unhide HOW) (unhide HWW))
  have hd1 : (!decide (dx = 0)) = true := by simp [hd0]
  rw [hd1]
  have hdx : 0 < dx := by omega
  clear hd1 hsx hd0
  have HPU := hide (heapPush_any (gf + 1) gf (.slice none 0 0) 0 [] 0 (xi : Int) w4 (unhide HDQ).fr (fun c h0 hc => by omega) (by omega) (by omega))
  go_wp2_with fail
  refine (unhide HPU).mono ?_
  rintro e w5 ⟨rfl, g1, cap1, L1, hf, hp, hmem, hat, hk⟩
  have hl1 := one_list hf.len hmem
  subst hl1
  obtain ⟨hq1, hq2⟩ := (unhide HDQ).lt
  have hq3 := (unhide HDQ).hg
  have HD5 : Hid (DQ w w5 [.int .i64 s.wd, .int .i64 s.hg, .slice (some ⟨bd, od, none⟩) s.D.length dc, .slice fao fn fc] gh gf (List.replicate s.D.length (-1)) (.slice (some ⟨g1, 0, none⟩) 1 cap1) 1 [(0, (xi : Int))]) :=
    ⟨(unhide HDQ).q.kept hk (fun e => by rcases e with e | e; omega; cases e) (fun e => by rcases e with e | e; omega; cases e) (fun b e => by rcases e with e | e; omega; cases e), hf, hq3⟩
  have HP5 := hide hp
  have HJ5 := hide (dj_start hxi (by rw [unhide EDX]; exact hdx))
  clear hf hp hmem hat hk HPU HDQ hz3
  go_wp2
  go_loopg [8] (5 * s.D.length + 1) (fun g v8 wr => ∃ (M : List Int) (L : List Rc) (t : Int) (n : Nat) (sv : Value), g = 5 * (s.D.length - cnt M) + n ∧ g ≤ 5 * s.D.length + 1 ∧ Hid (DQ w wr [.int .i64 s.wd, .int .i64 s.hg, .slice (some ⟨bd, od, none⟩) s.D.length dc, .slice fao fn fc] gh gf M sv n L) ∧ Hid (Hp L n) ∧ Hid (Dj s xi M L t (fun _ _ => False)))
  case atStart => exact ⟨_, _, 0, 1, _, by rw [cnt_none]; omega, Nat.le_refl _, HD5, HP5, HJ5⟩
  case round =>
    clear HD5 HP5 HJ5
    obtain ⟨M, L, t, n, sv, hg1, hg2, HQ, HP, HJ⟩ := hrel
    have HG1 := hide hg1
    have hnb : n ≤ 5 * s.D.length + 1 := by omega
    clear hg1
    have hML := (unhide HJ).len
    have hML1 : M.length ≤ s.D.length := by omega
    have hML2 : s.D.length ≤ M.length := by omega
    have HML := hide hML
    clear hML
    obtain ⟨a, cap, rfl, hcap⟩ := (unhide HQ).fr.sl
    have c0 := (unhide HQ).fr.box.cell (i := 0) rfl
    have HLE := hide (lenR_any a n cap wr)
    obtain ⟨hq1, hq2⟩ := (unhide HQ).lt
    have hq3 := (unhide HQ).hg
    cases n with
    | zero =>
      have hL0 : L = [] := by have := (unhide HQ).fr.len; exact List.eq_nil_of_length_eq_zero this.symm
      subst hL0
      have HC : Hid (CheapAns s (xi : Int) M true) := Or.inl ⟨unhide H12, rfl, unhide HML, Or.inr ⟨by show s.D.getD xi 0 ≠ 0; rw [unhide EDX]; omega, (unhide HJ).proved (unhide HN) (unhide H1) hxi (by rw [unhide EDX]; exact hdx)⟩⟩
      have HOW := hide ((unhide HQ).q.own (by omega))
      rw [unhide HML] at HOW
      have HWW := hide (unhide HQ).q.below
      clear HJ HP HQ
      go_wp2_with fail
      refine (unhide HLE).mono ?_
      rintro e w' ⟨rfl, h9⟩
      subst h9
      go_wp2
      refine bodyPost_ret (v := .tuple #[.slice (some ⟨gh, 0, none⟩) s.D.length s.D.length, .bool true]) (by simp [results, Try.results8, go_sem]) rfl (cheapPost_mk (unhide HC) (unhide HOW) (unhide HWW))
    | succ m =>
    have hLl := (unhide HQ).fr.len
    obtain ⟨g, cap', eg, hcap', hgB⟩ := (unhide HQ).fr.got
    simp only [Value.slice.injEq, true_and] at eg
    obtain ⟨rfl, rfl⟩ := eg
    have hin : L.getD 0 (0, 0) ∈ L := rc_mem (by omega)
    have HLS : Hid (∀ e, e ∈ L → (L.getD 0 (0, 0)).1 ≤ e.1) := fun e he => rc_least (by rw [← hLl]; exact unhide HP) he
    have HCH := hide (frCheapest_any (gf + 1) gf g m cap L wr (unhide HQ).fr.fr (unhide HP) (by omega) hcap')
    obtain ⟨p, ep, hpn, hdp, htc, hcb, hwy⟩ := (unhide HJ).ent _ hin
    have hct := (unhide HJ).cnt_le
    have ht0 := (unhide HJ).t0
    obtain ⟨c, ec⟩ : ∃ c, (L.getD 0 (0, 0)).1 = c := ⟨_, rfl⟩
    have hz : L.getD 0 (0, 0) = (c, (p : Int)) := by rw [← ec, ← ep]
    rw [ec] at HLS
    rw [hz] at HCH
    rw [ec] at htc hcb
    dsimp only at HCH
    have hc0 : 0 ≤ c := by omega
    have hc1 : c ≤ 144000 := by omega
    have hpI : (p : Int) < s.D.length := by omega
    clear hwy hin ep ec hz hLl
    go_wp2_with fail
    refine (unhide HLE).mono ?_
    rintro e w' ⟨rfl, h9⟩
    subst h9
    clear HLE
    have hm0 : (0 : Int) < ((m + 1 : Nat) : Int) := by omega
    go_wp2_with fail
    refine (unhide HCH).mono ?_
    rintro e w2 ⟨rfl, L', hp, hmem, hf, hk⟩
    have hgl := ((unhide HQ).fr.own (g := g) rfl).2
    have A1 := Below.alloc1 w2 (.cells #[.int .i64 c, .int .i64 (p : Int)] 64)
    have HQ2 : Hid (DQ w w2 [.int .i64 s.wd, .int .i64 s.hg, .slice (some ⟨bd, od, none⟩) s.D.length dc, .slice fao fn fc] gh gf M (.slice (some ⟨g, 0, none⟩) m cap) m L') :=
      ⟨(unhide HQ).q.kept hk (fun e => by omega) (fun e => by omega) (fun b e => by omega), FrN.of hf (by omega), hq3⟩
    have HNW := hide (ownV_alloc w2 #[.int .i64 c, .int .i64 (p : Int)] 64)
    have hz2 := hk.size
    have HP2 := hide hp
    have HM2 := hide hmem
    replace HQ2 := hide ((unhide HQ2).step A1)
    have cp := (unhide HQ2).q.oo.cell (i := p) (ints_at (by omega))
    have fp := (unhide HQ2).q.oo.frozen
    have n0 := (unhide HNW).cell (i := 0) rfl
    have n1 := (unhide HNW).cell (i := 1) rfl
    obtain ⟨mp, emp⟩ : ∃ z, M.getD p 0 = z := ⟨_, rfl⟩
    have hlow := (unhide HJ).low p hpn
    rw [emp] at cp hlow
    have EMP := hide emp
    clear hp hmem hf hk A1 HCH HQ HP c0 emp
    by_cases hmp : mp = -1
    case neg =>
      have HJ2 := hide ((unhide HJ).old (unhide HM2) (by rw [unhide EMP]; omega))
      have dm : (mp != -1) = true := by simp [hmp]
      go_wp2
      go_roundg (5 * (s.D.length - cnt M) + m)
      case measure => have := unhide HG1; omega
      case rel => exact ⟨M, L', t, m, _, rfl, by have := unhide HG1; omega, HQ2, HP2, HJ2⟩
    subst hmp
    obtain ⟨hj, hcn, -, -, -, hx0⟩ := (unhide HJ).settle (unhide HN) (unhide HM2) (unhide HLS) (by rw [unhide EMP]; omega)
    have hct2 : cnt M + 1 ≤ s.D.length := by have := hj.cnt_le; omega
    have HQ3 := hide ((unhide HQ2).put (p := p) (by omega) c)
    have HX0 := hide hx0
    have HCN := hide hcn
    have HMP : Hid ((M.set p c).getD p 0 = c) := by show _ = _; rw [getD_set (by omega), if_pos rfl]
    have HML3 : Hid ((M.set p c).length = s.D.length) := by show _ = _; rw [List.length_set]; exact unhide HML
    have HJ3 : Hid (Dj s xi (M.set p c) L' c (fun p' q => q = p ∧ (p' : Int) ∈ (nbs s.wd s.D.length (p : Int)).drop 0)) := hj.less (fun p' q h1 h2 h3 h4 _ _ => ⟨h3, by
      rw [List.drop_zero, nbs_mem (unhide HN) (by omega) hpI]
      exact ⟨by omega, by omega, by rw [next_comm, ← h3]; exact h4⟩⟩)
    have HN3 := hide ((unhide HNW).other (a := ⟨gh, p, none⟩) (by show w2.heap.size ≠ gh; omega) (.int .i64 c))
    have hq4 := (unhide HQ2).lt.2
    have hz4 : ((w2.alloc (.cells #[.int .i64 c, .int .i64 (p : Int)] 64)).setCell ⟨gh, p, none⟩ (.int .i64 c)).heap.size = w2.heap.size + 1 := by rw [World.size_setCell, World.size_alloc]
    go_upto_region 11 with (fail)
    obtain ⟨V, eV⟩ : ∃ z, z = (w2.alloc (.cells #[.int .i64 c, .int .i64 (p : Int)] 64)).setCell ⟨gh, p, none⟩ (.int .i64 c) := ⟨_, rfl⟩
    rw [← eV] at HQ3 HN3 hz4 ⊢
    obtain ⟨gN, egN⟩ : ∃ z, z = w2.heap.size := ⟨_, rfl⟩
    rw [← egN] at HN3 hz4 ⊢
    have hgN1 : g < gN := by omega
    have hgN2 : gf < gN := by omega
    have hgN3 : w.heap.size < gN := by omega
    clear eV egN cp fp n0 n1 hq4 HNW HQ2 hj hcn hx0 hz2
    obtain ⟨M', eM'⟩ : ∃ z, z = M.set p c := ⟨_, rfl⟩
    rw [← eM'] at HQ3 HX0 HCN HMP HML3 HJ3
    have HMM : Hid (∀ e : Nat, e ≠ p → M'.getD e 0 = M.getD e 0) := fun e he => by rw [eM', getD_set (by omega), if_neg he]
    clear eM'
    obtain ⟨NB, eNB⟩ : ∃ z, z = nbs s.wd s.D.length (p : Int) := ⟨_, rfl⟩
    have HMEM : Hid (∀ b, b ∈ NB ↔ (0 ≤ b ∧ b < s.D.length ∧ nextB s.wd (p : Int) b = true)) := fun b => by rw [eNB]; exact nbs_mem (unhide HN) (by omega) hpI
    have hNB4 : NB.length ≤ 4 := by rw [eNB]; exact nbs_len _ _ _
    have HNB1 := hide (unhide HNB V ((unhide HD).below (unhide HQ3).q.below) (p : Int) (by omega) hpI)
    rw [← eNB] at HNB1 HJ3
    have HO := hide (unhide HQ3).q.ob
    have b0 := (unhide HO).cell (i := 0) rfl
    have b1 := (unhide HO).cell (i := 1) rfl
    have b2 := (unhide HO).cell (i := 2) rfl
    have b3 := (unhide HO).cell (i := 3) rfl
    have n1 := (unhide HN3).cell (i := 1) rfl
    clear eNB
    go_wp2_with fail
    refine (unhide HNB1).mono ?_
    rintro e wi ⟨na, nn, ncp, rfl, hno, hb⟩
    have hnn := hno.at
    subst hnn
    have HNR : Hid (∀ k, k < NB.length → ∃ g2, na = some ⟨g2, 0, none⟩ ∧ gN < g2 ∧ OwnV wi g2 (ints NB)) := fun k hk => by
      obtain ⟨g2, e1, e2, e3⟩ := hno.row hk
      exact ⟨g2, e1, by omega, e3⟩
    replace HQ3 := hide ((unhide HQ3).step hb)
    replace HN3 := hide ((unhide HN3).step hb)
    have hzi : gN < wi.heap.size := by have := hb.size; omega
    have HKI := hide (Kept.refl (fun b => b = gf ∨ b = g) wi)
    have HFI := hide (unhide HQ3).fr
    have HQI := hide (unhide HQ3).q
    clear hb hno HNB1 b0 b1 b2 b3 n1 HO HQ3 hz4
    generalize wr = wo at *
    go_wp2
    go_loopg [61] NB.length (fun g2 kv wr => ∃ (k : Nat) (H : List Rc) (n : Nat) (sv : Value), k ≤ NB.length ∧ g2 = NB.length - k ∧ kv = .int .i64 (k : Int) ∧ n ≤ m + k ∧ Hid (FrN wr (gf + 1) gf sv n H) ∧ Hid (Hp H n) ∧ Hid (Dj s xi M' H c (fun p' q => q = p ∧ (p' : Int) ∈ NB.drop k)) ∧ Hid (Kept (fun b => b = gf ∨ b = g) wi wr) ∧ Hid (∀ b, sv.ownBlock = some b → b = g ∨ wi.heap.size ≤ b))
    case atStart => exact ⟨0, L', m, _, Nat.zero_le _, rfl, rfl, by omega, HFI, HP2, HJ3, HKI, fun b e => Or.inl (by simpa [Value.ownBlock] using e.symm)⟩
    case round =>
      clear HFI HP2 HJ3 HKI
      obtain ⟨k, H, n, sv, hk, rfl, rfl, hnk, HF, HHp, HJ4, HK, HSV⟩ := hrel
      have hzw := (unhide HK).size
      have HQ4 := hide ((unhide HQI).kept (unhide HK) (fun e => by omega) (fun e => by omega) (fun b e => by omega))
      have HN4 := hide ((unhide HN3).kept (unhide HK) (fun e => by omega))
      by_cases hkn : k < NB.length
      case neg =>
        have hke : k = NB.length := by omega
        subst hke
        have hki : ¬ (NB.length : Int) < NB.length := by omega
        have HJ5 : Hid (Dj s xi M' H c (fun _ _ => False)) := (unhide HJ4).less (fun p' q _ _ h3 _ _ _ => by rw [List.drop_length] at h3; simp at h3)
        have HQ5 : Hid (DQ w wr [.int .i64 s.wd, .int .i64 s.hg, .slice (some ⟨bd, od, none⟩) s.D.length dc, .slice fao fn fc] gh gf M' sv n H) := ⟨unhide HQ4, unhide HF, hq3⟩
        clear HQ4 HN4 HJ4 HF
        go_wp2
        go_roundg (5 * (s.D.length - cnt M') + n)
        case measure => have := unhide HG1; have := unhide HCN; omega
        case rel => exact ⟨M', H, c, n, sv, rfl, by have := unhide HG1; have := unhide HCN; omega, HQ5, HHp, HJ5⟩
      have hki : (k : Int) < NB.length := by omega
      obtain ⟨g2, rfl, hg2, ho2⟩ := unhide HNR k hkn
      have ho3 := ho2.kept (unhide HK) (fun e => by omega)
      have cy := ho3.cell (i := k) (ints_at hkn)
      have hym : NB.getD k 0 ∈ NB := by rw [getD_lt hkn]; exact List.getElem_mem hkn
      have hdr : NB.drop k = NB.getD k 0 :: NB.drop (k + 1) := by rw [getD_lt hkn]; exact List.drop_eq_getElem_cons hkn
      obtain ⟨y0, y1, ynx⟩ := (unhide HMEM _).1 hym
      obtain ⟨yn, eyn⟩ : ∃ q : Nat, NB.getD k 0 = (q : Int) := ⟨(NB.getD k 0).toNat, by omega⟩
      rw [eyn] at cy hdr y0 y1 ynx
      have hyn : yn < s.D.length := by omega
      have HDR := hide hdr
      have HYX := hide ynx
      obtain ⟨dy, edy⟩ : ∃ c, s.D.getD yn 0 = c := ⟨_, rfl⟩
      have hdy := (unhide HN).cost yn hyn
      rw [edy] at hdy
      obtain ⟨hdy0, hdy1⟩ := hdy
      have EDY := hide edy
      obtain ⟨my, emy⟩ : ∃ c, M'.getD yn 0 = c := ⟨_, rfl⟩
      have hmy := (unhide HJ4).low yn hyn
      rw [emy] at hmy
      have EMY := hide emy
      have hmlt : yn < M'.length := by have := unhide HML3; omega
      obtain ⟨bd', od', ebd, hcd⟩ := unhide HDC yn hyn
      simp only [Option.some.injEq, Addr.mk.injEq, and_true] at ebd
      obtain ⟨rfl, rfl⟩ := ebd
      rw [edy] at hcd
      have HCD := hide hcd
      have HO := hide (unhide HQ4).ob
      have b0 := (unhide HO).cell (i := 0) rfl
      have b1 := (unhide HO).cell (i := 1) rfl
      have b2 := (unhide HO).cell (i := 2) rfl
      have b3 := (unhide HO).cell (i := 3) rfl
      have hsy : sailB s (yn : Int) = !decide (dy = 0) := by
        unfold sailB
        rw [show onB s (yn : Int) = true by unfold onB; exact inB_mk (by omega) (by omega)]
        show (true && !decide (s.D.getD yn 0 = 0)) = _
        rw [edy]
        rfl
      have HSA2 := hide (unhide HSA wr ((unhide HD).below (unhide HQ4).below) (yn : Int))
      rw [hsy] at HSA2
      clear ho2 ho3 hym hdr y0 ynx eyn edy emy hcd hsy
      go_wp2_with fail
      refine (unhide HSA2).mono ?_
      rintro e w6 ⟨rfl, hb⟩
      replace HQ4 := hide ((unhide HQ4).step hb)
      replace HN4 := hide ((unhide HN4).step hb)
      replace HF := hide ((unhide HF).below hb)
      replace HK := hide ((unhide HK).trans (kept_of_below hb))
      replace hzw := (unhide HK).size
      clear hb HSA2 b0 b1 b2 b3 HO cy
      by_cases hd0 : dy = 0
      case pos =>
        have hd1 : (!decide (dy = 0)) = false := by simp [hd0]
        rw [hd1]
        have HJ5 : Hid (Dj s xi M' H c (fun p' q => q = p ∧ (p' : Int) ∈ NB.drop (k + 1))) := (unhide HJ4).less (fun p' q _ _ h3 _ h5 h6 => by rw [unhide HDR] at h3; rcases h3 with ⟨e1, h3⟩; rw [List.mem_cons] at h3; rcases h3 with h3 | h3; exact absurd h3 (fun e => by have e' : p' = yn := (by omega); subst e'; have := unhide EDY; omega); exact ⟨e1, h3⟩)
        clear hd1
        go_wp2
        go_roundg (NB.length - (k + 1))
        case measure => omega
        case rel => exact ⟨k + 1, H, n, sv, by omega, rfl, by go_num, by omega, HF, HHp, HJ5, HK, HSV⟩
      have hd1 : (!decide (dy = 0)) = true := by simp [hd0]
      rw [hd1]
      have cm := (unhide HQ4).oo.cell (i := yn) (ints_at hmlt)
      rw [unhide EMY] at cm
      by_cases hm1 : my = -1
      case neg =>
        have dm : (my == -1) = false := by simp [hm1]
        have HJ5 : Hid (Dj s xi M' H c (fun p' q => q = p ∧ (p' : Int) ∈ NB.drop (k + 1))) := (unhide HJ4).less (fun p' q _ _ h3 _ h5 h6 => by rw [unhide HDR] at h3; rcases h3 with ⟨e1, h3⟩; rw [List.mem_cons] at h3; rcases h3 with h3 | h3; exact absurd h3 (fun e => by have e' : p' = yn := (by omega); subst e'; have := unhide EMY; omega); exact ⟨e1, h3⟩)
        clear hd1
        go_wp2
        go_roundg (NB.length - (k + 1))
        case measure => omega
        case rel => exact ⟨k + 1, H, n, sv, by omega, rfl, by go_num, by omega, HF, HHp, HJ5, HK, HSV⟩
      subst hm1
      have HPU := hide fun X hX hB => heapPush_any (gf + 1) gf sv n H (c + dy) (yn : Int) X hX (unhide HHp) (by omega) hB
      have t0 := (unhide HN4).cell (i := 0) rfl
      have t1 := (unhide HQ4).ob.cell (i := 2) rfl
      have t2 := wcell3 (unhide HCD) (unhide HQ4).below
      have hwq : IntKind.i64.wrap (c + dy) = c + dy := by rw [IntKind.wrap_i64]; omega
      have yn1 : (yn : Int) < s.D.length := by omega
      have hdy2 : 0 < dy := by omega
      clear hd1 hd0
      go_wp2_with fail
      go_region_held3 (fun z => z.cell? ⟨gN, 0, none⟩ = some (.int .i64 c) ∧ z.cell? ⟨w.heap.size, 2, none⟩ = some (.slice (some ⟨bd, od, none⟩) s.D.length dc) ∧ z.cell? ⟨bd, od + yn, none⟩ = some (.int .i64 dy)) (go_keep) (first | (go_at_call 32; refine (unhide HPU _ (by first | exact unhide HF | exact (unhide HF).below (Below.refl _ _).drew) (by have := (unhide HF).box.lt; first | omega | (show gf + 1 ≤ w6.heap.size; omega))).mono ?_; rintro e w7 ⟨rfl, g3, cap3, H', hf, hp, hmem, hat, hk0⟩; have hk7 : Kept (fun b => b = gf ∨ sv.ownBlock = some b) w6 w7 := (by first | exact hk0 | exact Kept.drewL hk0); have HK7 : Hid (Kept (fun b => b = gf ∨ b = g) wi w7) := ((unhide HK).on hk7 (fun b hb e => by rcases e with e | e; exact Or.inl e; rcases unhide HSV b e with e | e; exact Or.inr e; omega)); have HF7 := hide hf; have HP7 := hide hp; have HM7 := hide hmem; have HS7 : Hid (∀ b, (Value.slice (some ⟨g3, 0, none⟩) (n + 1) cap3).ownBlock = some b → b = g ∨ wi.heap.size ≤ b) := (fun b e => by have e' : g3 = b := (by simpa [Value.ownBlock] using e); subst e'; rcases hat with h | h; exact unhide HSV _ h; right; first | omega | (have h' : w6.heap.size ≤ g3 := h; omega)); have HN7 := hide ((unhide HN3).kept (unhide HK7) (fun e => by omega)); have HQ7 := hide ((unhide HQI).kept (unhide HK7) (fun e => by omega) (fun e => by omega) (fun b e => by omega)); have s0 := (unhide HN7).cell (i := 0) rfl; have s1 := (unhide HQ7).ob.cell (i := 2) rfl; have s2 := wcell3 (unhide HCD) (unhide HQ7).below; clear hf hp hmem hat hk0 hk7))
      have HJ7 : Hid (Dj s xi M' H' c (fun p' q => q = p ∧ (p' : Int) ∈ NB.drop (k + 1))) := (unhide HJ4).push (p := yn) (q := p) (unhide HN) hyn hpn (unhide HMP) (by rw [unhide EDY]; omega) (by rw [next_comm]; exact unhide HYX) (unhide HX0) (fun e => by rw [unhide EDY]; exact unhide HM7 e) (fun p' q' h => by
        rw [unhide HDR, List.mem_cons] at h
        rcases h with ⟨e1, h | h⟩
        · exact Or.inl ⟨by omega, e1⟩
        · exact Or.inr ⟨e1, h⟩)
      go_wp2
      go_roundg (NB.length - (k + 1))
      case measure => omega
      case rel => exact ⟨k + 1, H', n + 1, _, by omega, rfl, by go_num, by omega, HF7, HP7, HJ7, HK7, HS7⟩

end Go.Proofs.Ytdpcacfgbjllhaa
