/- Laid together out of: SeJ, ImCheapest, SeJ2, ImSe2, ImPr1, ImPr2. -/
import Derived.Test.YtdpcacfgbjllhaaPd
import Derived.Test.YtdpcacfgbjllhaaPb
import Derived.Deep.DeepCutAuto
import Derived.Deep.RegionHeld3
import Derived.Test.YtdpcacfgbjllhaaPc

/- Contract of the specification's Cheapest. Written by wip/mkcheap.py. -/
namespace Go.Proofs.Ytdpcacfgbjllhaa
open Go.RowKit

/-- What Cheapest tells: one list alone (prov_one). -/
def CheapAns (s : Se) (x : Int) (M : List Int) (b : Bool) : Prop :=
  ((seaB s && onB s x) = true ∧ b = true ∧ M.length = s.D.length ∧ ((costAt s x = 0 ∧ M = List.replicate s.D.length (-1)) ∨ (costAt s x ≠ 0 ∧ provesB s x M = true))) ∨ ((seaB s && onB s x) = false ∧ b = false ∧ M = [])
def CheapPost (s : Se) (x : Int) (w w' : World) (e : Ending) : Prop := ∃ M b a n cp, CheapAns s x M b ∧ e = .returned (.tuple #[.slice a n cp, .bool b]) ∧ OwnSl w.heap.size w' (.slice a n cp) M ∧ Below w.heap.size w w'
theorem cheapPost_mk {s : Se} {x : Int} {w w' : World} {M : List Int} {b : Bool} {a : Option Addr} {n cp : Nat} (h : CheapAns s x M b) (ho : OwnSl w.heap.size w' (.slice a n cp) M) (hb : Below w.heap.size w w') : CheapPost s x w w' (.returned (.tuple #[.slice a n cp, .bool b])) := ⟨M, b, a, n, cp, h, rfl, ho, hb⟩
theorem cheap_one {s : Se} {x : Int} {M N : List Int} {b c : Bool} (h : CheapAns s x M b) (h' : CheapAns s x N c) : M = N ∧ b = c := by
  rcases h with ⟨h1, h2, h3, h4⟩ | ⟨h1, h2, h3⟩ <;> rcases h' with ⟨k1, k2, k3, k4⟩ | ⟨k1, k2, k3⟩
  · refine ⟨?_, by rw [h2, k2]⟩
    rcases h4 with ⟨a1, a2⟩ | ⟨a1, a2⟩ <;> rcases k4 with ⟨c1, c2⟩ | ⟨c1, c2⟩
    · rw [a2, c2]
    · exact absurd a1 c1
    · exact absurd c1 a1
    · obtain ⟨xi, rfl⟩ : ∃ n : Nat, x = (n : Int) := by
        rw [Bool.and_eq_true] at h1
        have := h1.2
        unfold onB at this
        exact ⟨x.toNat, by have := inB_true this; omega⟩
      exact prov_one (proves_prov a2) (proves_prov c2)
  · rw [h1] at k1; cases k1
  · rw [h1] at k1; cases k1
  · exact ⟨by rw [h3, k3], by rw [h2, k2]⟩

theorem Try.infoInt8 : (Try.prog.info? 3).map (fun i => (i.zero, i.size, i.bytes)) = some (some (.int .i64 0), 1, 8) := by kernel_rfl
theorem ints_made (n : Nat) : (madeCells #[Value.int .i64 0] n).toList = ints (List.replicate n 0) := by
  unfold madeCells ints
  apply List.ext_getElem?
  intro i
  by_cases h : i < n
  · simp [h, Nat.mod_one]
  · simp [h]
theorem ints_setS (M : List Int) (p : Nat) (v : Int) : (ints M).set p (.int .i64 v) = ints (M.set p v) := by
  unfold ints
  rw [List.map_set]
theorem ints_at {M : List Int} {p : Nat} (h : p < M.length) : (ints M)[p]? = some (.int .i64 (M.getD p 0)) := by
  rw [getD_lt h]
  simp [ints, h]
/-- The box of the sea and the row of costs. -/
structure QI (w W : World) (box : List Value) (g : Nat) (M : List Int) : Prop where
  below : Below w.heap.size w W
  ob : OwnV W w.heap.size box
  oo : OwnV W g (ints M)
  h1 : w.heap.size < g
theorem QI.step {w W W' : World} {box : List Value} {g : Nat} {M : List Int} (h : QI w W box g M) (hb : Below W.heap.size W W') : QI w W' box g M := ⟨Below.step h.below hb, h.ob.step hb, h.oo.step hb, h.h1⟩
theorem QI.put {w W : World} {box : List Value} {g : Nat} {M : List Int} (h : QI w W box g M) {p : Nat} (hp : p < M.length) (v : Int) : QI w (W.setCell ⟨g, p, none⟩ (.int .i64 v)) box g (M.set p v) :=
  ⟨h.below.setCell (p := ⟨g, p, none⟩) (Nat.le_of_lt h.h1) _, h.ob.other (a := ⟨g, p, none⟩) (by show w.heap.size ≠ g; have := h.h1; omega) _, by rw [← ints_setS]; exact h.oo.set p _ (by simpa [ints] using hp), h.h1⟩
theorem QI.own {w W : World} {box : List Value} {g : Nat} {M : List Int} (h : QI w W box g M) (hM : M.length ≤ 144) : OwnSl w.heap.size W (.slice (some ⟨g, 0, none⟩) M.length M.length) M :=
  ⟨some ⟨g, 0, none⟩, M.length, rfl, Nat.le_refl _, by unfold maxLen; omega, fun _ => ⟨g, rfl, Nat.le_of_lt h.h1, h.oo⟩⟩
def St (s : Se) (M0 M : List Int) (a : Bool) (Dn : Nat → Nat → Prop) : Prop := (a = true ∧ mu M < mu M0) ∨ (a = false ∧ M = M0 ∧ ∀ p q, p < s.D.length → q < s.D.length → Dn p q → Rest s M p q)
theorem St.grow {s : Se} {M0 M : List Int} {a : Bool} {Dn Dn' : Nat → Nat → Prop} (h : St s M0 M a Dn) (hr : ∀ p q, p < s.D.length → q < s.D.length → Dn' p q → Dn p q ∨ Rest s M p q) : St s M0 M a Dn' := by
  rcases h with h | ⟨h1, h2, h3⟩
  · exact Or.inl h
  · exact Or.inr ⟨h1, h2, fun p q hp hq hd => by
      rcases hr p q hp hq hd with h | h
      · exact h3 p q hp hq h
      · exact h⟩
theorem St.put {s : Se} {M0 M M' : List Int} {a : Bool} {Dn Dn' : Nat → Nat → Prop} (h : St s M0 M a Dn) (hl : mu M' < mu M) : St s M0 M' true Dn' := by
  rcases h with h | ⟨h1, h2, h3⟩
  · exact Or.inl ⟨rfl, by omega⟩
  · exact Or.inl ⟨rfl, by rw [← h2]; exact hl⟩
theorem rep_set {n k : Nat} (h : k < n) : ((List.replicate k (-1 : Int)) ++ List.replicate (n - k) 0).set k (-1) = List.replicate (k + 1) (-1) ++ List.replicate (n - (k + 1)) 0 := by
  rw [List.set_append, if_neg (by simp)]
  simp only [List.length_replicate, Nat.sub_self]
  rw [show n - k = (n - (k + 1)) + 1 by omega, List.replicate_succ, List.set_cons_zero, List.replicate_succ', List.append_assoc]
  rfl

set_option maxRecDepth 10000 in
set_option maxHeartbeats 32000000 in
theorem specCheapest_any (s : Se) (dao : Option Addr) (dn dc : Nat) (fao : Option Addr) (fn fc : Nat) (x : Int) (w : World) (hD : IntsIn w (.slice dao dn dc) s.D) (hF : RClosed w (.slice fao fn fc) s.F) :
    Calls Try.prog 18 #[vSea s.wd s.hg (.slice dao dn dc) (.slice fao fn fc), .int .i64 x] w fun e w' => CheapPost s x w w' e := by
  have A := Below.alloc1 w (.cells #[.int .i64 s.wd, .int .i64 s.hg, .slice dao dn dc, .slice fao fn fc] 27)
  have O := ownV_alloc w #[.int .i64 s.wd, .int .i64 s.hg, .slice dao dn dc, .slice fao fn fc] 27
  have HOK := hide (specSeaOk_any s dao dn dc fao fn fc _ (hD.below A) (hF.below A))
  obtain ⟨dao', dc', eD, hdl, hdm, hdc⟩ := hD
  simp only [Value.slice.injEq] at eD
  obtain ⟨rfl, rfl, rfl⟩ := eD
  have HDC := hide hdc
  have HW := hide A
  have HO := hide O
  clear A O hdc hF
  unfold vSea at HOK ⊢
  cases h1 : seaB s with
  | false =>
    have HC : Hid (CheapAns s x [] false) := Or.inr ⟨by rw [h1]; rfl, rfl, rfl⟩
    rw [h1] at HOK
    go_enter Try.func18, Try.ntmps18
    go_wp2_with fail
    refine (unhide HOK).mono ?_
    rintro e w1 ⟨rfl, hb⟩
    replace HW := hide (Below.step (unhide HW) hb)
    clear hb HOK
    go_wp2
    refine bodyPost_ret (v := .tuple #[.slice (some ⟨w1.heap.size, 0, none⟩) 0 0, .bool false]) (by simp [results, Try.results18, go_sem]) rfl (cheapPost_mk (unhide HC) ⟨some ⟨w1.heap.size, 0, none⟩, 0, rfl, Nat.le_refl _, Nat.zero_le _, fun h => absurd rfl h⟩ (Below.step (unhide HW) (Below.alloc1 _ _)))
  | true =>
  rw [h1] at HOK
  have hn := seaB_n h1
  have HPL := hide fun V => l7Place_any s x (.slice dao s.D.length dc) (.slice fao fn fc) V hn
  unfold vSea at HPL
  cases h2 : onB s x with
  | false =>
    have HC : Hid (CheapAns s x [] false) := Or.inr ⟨by rw [h1, h2]; rfl, rfl, rfl⟩
    rw [h2] at HPL
    go_enter Try.func18, Try.ntmps18
    go_wp2_with fail
    refine (unhide HOK).mono ?_
    rintro e w1 ⟨rfl, hb⟩
    replace HW := hide (Below.step (unhide HW) hb)
    replace HO := hide (OwnV.step (unhide HO) hb)
    have b0 := (unhide HO).cell (i := 0) rfl
    have b1 := (unhide HO).cell (i := 1) rfl
    have b2 := (unhide HO).cell (i := 2) rfl
    have b3 := (unhide HO).cell (i := 3) rfl
    clear hb HOK
    go_wp2_with fail
    refine (unhide HPL _).mono ?_
    rintro e w2 ⟨rfl, hb⟩
    replace HW := hide (Below.step (unhide HW) hb)
    clear hb
    go_wp2
    refine bodyPost_ret (v := .tuple #[.slice (some ⟨w2.heap.size, 0, none⟩) 0 0, .bool false]) (by simp [results, Try.results18, go_sem]) rfl (cheapPost_mk (unhide HC) ⟨some ⟨w2.heap.size, 0, none⟩, 0, rfl, Nat.le_refl _, Nat.zero_le _, fun h => absurd rfl h⟩ (Below.step (unhide HW) (Below.alloc1 _ _)))
  | true =>
  rw [h2] at HPL
  obtain ⟨xi, rfl, hxi⟩ : ∃ q : Nat, x = (q : Int) ∧ q < s.D.length := by
    have h3 := h2
    unfold onB at h3
    obtain ⟨a, b⟩ := inB_true h3
    exact ⟨x.toNat, by omega, by omega⟩
  obtain ⟨bd, od, rfl, hcd⟩ := unhide HDC xi hxi
  have e1 := ((unhide HW).cell (lt_of_cell hcd)).trans hcd
  have hxiI : (xi : Int) < s.D.length := by omega
  have hle := hn.le
  have hleI : (s.D.length : Int) ≤ 144 := by omega
  obtain ⟨dx, edx⟩ : ∃ c, s.D.getD xi 0 = c := ⟨_, rfl⟩
  rw [edx] at e1
  have EDX := hide edx
  have HN := hide hn
  have H1 := hide h1
  have H12 : Hid ((seaB s && onB s (xi : Int)) = true) := by show _ = _; rw [h1, h2]; rfl
  have hmk := run_make_recs (P := Try.prog) 24 3 _ 1 8 Try.underlying24 Try.infoInt8 .i64 .i64 s.D.length (by omega) (by omega)
  clear hcd edx hn h1 h2
  go_enter Try.func18, Try.ntmps18
  go_wp2_with fail
  refine (unhide HOK).mono ?_
  rintro e w1 ⟨rfl, hb⟩
  have e2 := (hb.cell (lt_of_cell e1)).trans e1
  replace HW := hide (Below.step (unhide HW) hb)
  replace HO := hide (OwnV.step (unhide HO) hb)
  have b0 := (unhide HO).cell (i := 0) rfl
  have b1 := (unhide HO).cell (i := 1) rfl
  have b2 := (unhide HO).cell (i := 2) rfl
  have b3 := (unhide HO).cell (i := 3) rfl
  clear hb HOK
  go_wp2_with fail
  refine (unhide HPL _).mono ?_
  rintro e w2 ⟨rfl, hb⟩
  have e3 := (hb.cell (lt_of_cell e2)).trans e2
  replace HW := hide (Below.step (unhide HW) hb)
  replace HO := hide (OwnV.step (unhide HO) hb)
  have f2 := (unhide HO).cell (i := 2) rfl
  clear hb HPL b0 b1 b2 b3 e1 e2
  go_upto_region 4 with (fail)
  have hgb : w.heap.size < w2.heap.size := (unhide HO).lt
  have HQ : Hid (QI w (w2.alloc (.cells (madeCells #[.int .i64 0] s.D.length) 3)) [.int .i64 s.wd, .int .i64 s.hg, .slice (some ⟨bd, od, none⟩) s.D.length dc, .slice fao fn fc] w2.heap.size (List.replicate 0 (-1) ++ List.replicate (s.D.length - 0) 0)) := ⟨Below.step (unhide HW) (Below.alloc1 _ _), (unhide HO).alloc _, by rw [show (List.replicate 0 (-1 : Int) ++ List.replicate (s.D.length - 0) 0) = List.replicate s.D.length 0 by simp, ← ints_made]; exact ownV_alloc _ _ _, hgb⟩
  have e5 := ((Below.alloc1 w2 (.cells (madeCells #[.int .i64 0] s.D.length) 3)).cell (lt_of_cell e3)).trans e3
  obtain ⟨W0, eW⟩ : ∃ z, z = w2.alloc (.cells (madeCells #[.int .i64 0] s.D.length) 3) := ⟨_, rfl⟩
  rw [← eW] at HQ e5 ⊢
  clear eW e3 f2 HO HW hmk
  generalize w2.heap.size = gh at *
  go_wp2
  go_loopg [7] s.D.length (fun g i wr => ∃ k : Nat, k ≤ s.D.length ∧ g = s.D.length - k ∧ i = .int .i64 k ∧ Hid (QI w wr [.int .i64 s.wd, .int .i64 s.hg, .slice (some ⟨bd, od, none⟩) s.D.length dc, .slice fao fn fc] gh (List.replicate k (-1) ++ List.replicate (s.D.length - k) 0)))
  case atStart => exact ⟨0, Nat.zero_le _, rfl, rfl, HQ⟩
  case round =>
    clear HQ e5
    obtain ⟨k, hk, rfl, rfl, HQ⟩ := hrel
    by_cases hkn : k < s.D.length
    case pos =>
      have hki : (k : Int) < s.D.length := by omega
      have hlen : k < (List.replicate k (-1 : Int) ++ List.replicate (s.D.length - k) 0).length := by simp; omega
      have ck := (unhide HQ).oo.cell (i := k) (ints_at hlen)
      have fz := (unhide HQ).oo.frozen
      have HQ1 := (unhide HQ).put hlen (-1)
      rw [rep_set hkn] at HQ1
      have HQ2 := hide HQ1
      clear HQ1 HQ hlen
      go_wp2
      go_roundg (s.D.length - (k + 1))
      case measure => omega
      case rel => exact ⟨k + 1, by omega, rfl, by go_num, HQ2⟩
    have hkk : k = s.D.length := by omega
    subst hkk
    have hki : ¬ (s.D.length : Int) < s.D.length := by omega
    rw [show (List.replicate s.D.length (-1 : Int) ++ List.replicate (s.D.length - s.D.length) 0) = List.replicate s.D.length (-1) by simp] at HQ
    obtain ⟨bd', od', ed, hcd⟩ := unhide HDC xi hxi
    simp only [Option.some.injEq, Addr.mk.injEq, and_true] at ed
    obtain ⟨rfl, rfl⟩ := ed
    have e6 := wcell3 hcd (unhide HQ).below
    rw [unhide EDX] at e6
    have g2 := (unhide HQ).ob.cell (i := 2) rfl
    clear hcd
    by_cases c0 : dx = 0
    · have HC : Hid (CheapAns s (xi : Int) (List.replicate s.D.length (-1)) true) := Or.inl ⟨unhide H12, rfl, by simp, Or.inl ⟨by show s.D.getD xi 0 = 0; rw [unhide EDX]; exact c0, rfl⟩⟩
      have HOW := hide ((unhide HQ).own (by simp; exact hle))
      rw [List.length_replicate] at HOW
      have d0 : (dx == 0) = true := by simp; exact c0
      subst c0
      go_wp2
      refine bodyPost_ret (v := .tuple #[.slice (some ⟨gh, 0, none⟩) s.D.length s.D.length, .bool true]) (by simp [results, Try.results18, go_sem]) rfl (cheapPost_mk (unhide HC) (unhide HOW) (unhide HQ).below)
    have d0 : (dx == 0) = false := by simp; exact c0
    have hlen : xi < (List.replicate s.D.length (-1 : Int)).length := by simpa using hxi
    have cx := (unhide HQ).oo.cell (i := xi) (ints_at hlen)
    have fz := (unhide HQ).oo.frozen
    have HQ1 := hide ((unhide HQ).put hlen 0)
    have HBF := hide (bf_start hxi (by rw [unhide EDX]; exact c0))
    have hdxn : s.D.getD xi 0 ≠ 0 := by rw [unhide EDX]; exact c0
    have HXD := hide hdxn
    clear hlen HQ c0 hdxn
    generalize (List.replicate s.D.length (-1 : Int)).set xi 0 = M1 at *
    go_wp2
    clear cx fz e6 g2
    generalize wr = w5 at *
    go_loopg [8] (mu M1 + 1) (fun g av wr2 => ∃ M a, av = .bool a ∧ g = mu M + (if a = true then 1 else 0) ∧ Hid (QI w wr2 [.int .i64 s.wd, .int .i64 s.hg, .slice (some ⟨bd, od, none⟩) s.D.length dc, .slice fao fn fc] gh M) ∧ Hid (BF s xi M) ∧ Hid (a = false → ∀ p q, p < s.D.length → q < s.D.length → Rest s M p q))
    case atStart => exact ⟨M1, true, rfl, rfl, HQ1, HBF, fun h => by cases h⟩
    case round =>
      clear HQ1 HBF
      obtain ⟨M0, a, rfl, rfl, HQ, HBF, HR⟩ := hrel
      have hlM := (unhide HBF).len
      cases a with
      | false =>
        have HC : Hid (CheapAns s (xi : Int) M0 true) := Or.inl ⟨unhide H12, rfl, hlM, Or.inr ⟨unhide HXD, (unhide HBF).proved (unhide HN) (unhide H1) hxi (unhide HXD) (unhide HR rfl)⟩⟩
        have HOW := hide ((unhide HQ).own (by rw [hlM]; exact hle))
        rw [hlM] at HOW
        clear hlM HR HBF
        go_wp2
        refine bodyPost_ret (v := .tuple #[.slice (some ⟨gh, 0, none⟩) s.D.length s.D.length, .bool true]) (by simp [results, Try.results18, go_sem]) rfl (cheapPost_mk (unhide HC) (unhide HOW) (unhide HQ).below)
      | true =>
        have HST : Hid (St s M0 M0 false (fun p _ => p < 0)) := Or.inr ⟨rfl, rfl, fun p q _ _ h => by omega⟩
        clear HR hlM
        go_wp2
        generalize wr = w6 at *
        go_loopg [8, 9] s.D.length (fun g av i wr3 => ∃ p M a, p ≤ s.D.length ∧ g = s.D.length - p ∧ i = .int .i64 (p : Nat) ∧ av = .bool a ∧ Hid (QI w wr3 [.int .i64 s.wd, .int .i64 s.hg, .slice (some ⟨bd, od, none⟩) s.D.length dc, .slice fao fn fc] gh M) ∧ Hid (BF s xi M) ∧ Hid (St s M0 M a (fun p' _ => p' < p)))
        case atStart => exact ⟨0, M0, false, Nat.zero_le _, rfl, rfl, rfl, HQ, HBF, HST⟩
        case round =>
          clear HQ HBF HST
          obtain ⟨p, M, a, hp, rfl, rfl, rfl, HQ, HBF, HST⟩ := hrel
          by_cases hpn : p < s.D.length
          case neg =>
            have hpi : ¬ (p : Int) < s.D.length := by omega
            go_wp2
            go_roundg (mu M + (if a = true then 1 else 0))
            case measure =>
              rcases unhide HST with ⟨h1, h2⟩ | ⟨h1, h2, -⟩
              · rw [h1]; simp; omega
              · rw [h1, h2]; simp
            case rel => exact ⟨M, a, rfl, rfl, HQ, HBF, fun h p' q' hp' hq' => by
              rcases unhide HST with ⟨h1, -⟩ | ⟨-, -, h3⟩
              · rw [h1] at h; cases h
              · exact h3 p' q' hp' hq' (by omega)⟩
          have hpi : (p : Int) < s.D.length := by omega
          replace HST : Hid (St s M0 M a (fun p' q' => p' < p ∨ (p' = p ∧ q' < 0))) := (unhide HST).grow (fun p' q' _ _ h => by left; omega)
          go_wp2
          generalize wr = w7 at *
          go_loopg [8, 10] s.D.length (fun g av i wr4 => ∃ q M a, q ≤ s.D.length ∧ g = s.D.length - q ∧ i = .int .i64 (q : Nat) ∧ av = .bool a ∧ Hid (QI w wr4 [.int .i64 s.wd, .int .i64 s.hg, .slice (some ⟨bd, od, none⟩) s.D.length dc, .slice fao fn fc] gh M) ∧ Hid (BF s xi M) ∧ Hid (St s M0 M a (fun p' q' => p' < p ∨ (p' = p ∧ q' < q))))
          case atStart => exact ⟨0, M, a, Nat.zero_le _, rfl, rfl, rfl, HQ, HBF, HST⟩
          case round =>
            clear HQ HBF HST M a
            obtain ⟨q, M, a, hq, rfl, rfl, rfl, HQ, HBF, HST⟩ := hrel
            obtain ⟨bd', od', ed, hcd⟩ := unhide HDC p hpn
            simp only [Option.some.injEq, Addr.mk.injEq, and_true] at ed
            obtain ⟨rfl, rfl⟩ := ed
            have eD := wcell3 hcd (unhide HQ).below
            obtain ⟨dp, edp⟩ : ∃ c, s.D.getD p 0 = c := ⟨_, rfl⟩
            have hdb := (unhide HN).cost p hpn
            rw [edp] at eD hdb
            obtain ⟨hdb0, hdb1⟩ := hdb
            have EDP := hide edp
            clear hcd edp
            have a0 := (unhide HQ).ob.cell (i := 0) rfl
            have a1 := (unhide HQ).ob.cell (i := 1) rfl
            have a2 := (unhide HQ).ob.cell (i := 2) rfl
            have a3 := (unhide HQ).ob.cell (i := 3) rfl
            by_cases hqn : q < s.D.length
            case neg =>
              have hqi : ¬ (q : Int) < s.D.length := by omega
              have HST' : Hid (St s M0 M a (fun p' _ => p' < p + 1)) := (unhide HST).grow (fun p' q' _ _ h => by left; omega)
              go_wp2
              go_roundg (s.D.length - (p + 1))
              case measure => omega
              case rel => exact ⟨p + 1, M, a, by omega, rfl, by go_num, rfl, HQ, HBF, HST'⟩
            have hqi : (q : Int) < s.D.length := by omega
            by_cases cd : dp = 0
            · have d2 : decide (0 < dp) = false := by simp; omega
              have HST' : Hid (St s M0 M a (fun p' _ => p' < p + 1)) := (unhide HST).grow (fun p' q' _ _ h => by
                by_cases e : p' = p
                · right; intro h1; rw [e, unhide EDP] at h1; omega
                · left; omega)
              subst cd
              go_wp2
              go_roundg (s.D.length - (p + 1))
              case measure => omega
              case rel => exact ⟨p + 1, M, a, by omega, rfl, by go_num, rfl, HQ, HBF, HST'⟩
            have d2 : decide (0 < dp) = true := by simp; omega
            have hdp0 : 0 < dp := by omega
            have hlM := (unhide HBF).len
            have eQ := (unhide HQ).oo.cell (i := q) (ints_at (by rw [hlM]; exact hqn))
            have eP := (unhide HQ).oo.cell (i := p) (ints_at (by rw [hlM]; exact hpn))
            obtain ⟨mq, emq⟩ : ∃ c, M.getD q 0 = c := ⟨_, rfl⟩
            obtain ⟨mp, emp⟩ : ∃ c, M.getD p 0 = c := ⟨_, rfl⟩
            have hhq := (unhide HBF).high q hqn
            have hhp := (unhide HBF).high p hpn
            have hlp := (unhide HBF).low p hpn
            have hcn := (unhide HBF).cnt_le
            rw [emq] at eQ hhq
            rw [emp] at eP hhp hlp
            have EMQ := hide emq
            have EMP := hide emp
            have hq1 : mq ≤ 144000 := by omega
            have hp1 : mp ≤ 144000 := by omega
            clear hlM emq emp hhq hhp hcn
            have p0 := fun x' : Gr wr => gr_cell a0 x'
            have p1 := fun x' : Gr wr => gr_cell a1 x'
            have p2 := fun x' : Gr wr => gr_cell a2 x'
            have p3 := fun x' : Gr wr => gr_cell a3 x'
            have rQ := fun x' : Gr wr => gr_cell eQ x'
            have rP := fun x' : Gr wr => gr_cell eP x'
            have rD := fun x' : Gr wr => gr_cell eD x'
            have gsome := gr_some wr
            have S1 := hide fun x' : Gr wr => l7Next_any s (p : Int) (q : Int) (.slice (some ⟨bd, od, none⟩) s.D.length dc) (.slice fao fn fc) x'.val (unhide HN) (by omega) hpi (by omega) hqi
            unfold vSea at S1
            by_cases c1 : 0 ≤ mq
            case neg =>
              have HREST : Hid (Rest s M p q) := fun _ h _ => by rw [unhide EMQ] at h; omega
              have d3 : decide (0 ≤ mq) = false := decide_eq_false c1
              go_wp2
              refine wp_region_grown (by kernel_rfl) (by kernel_rfl) ?_
              repeat (go_big_quiet_step (fail))
              refine wpQuiet_nil ?_
              intro w1 hw1
              obtain ⟨z', hz⟩ := hw1
              have hb1 : Below wr.heap.size wr w1 := hz ▸ z'.ok
              clear hz gsome
              go_wp2
              go_roundg (s.D.length - (q + 1))
              case measure => omega
              case rel => exact ⟨q + 1, M, a, by omega, rfl, by go_num, rfl, hide ((unhide HQ).step hb1), HBF, (unhide HST).grow (fun p' q' hp' hq' hd' => by
                by_cases e : p' = p ∧ q' = q
                · right; rw [e.1, e.2]; exact unhide HREST
                · left; omega)⟩
            have d3 : decide (0 ≤ mq) = true := decide_eq_true c1
            cases h5 : nextB s.wd (p : Int) (q : Int) with
            | false =>
              rw [h5] at S1
              have HREST : Hid (Rest s M p q) := fun _ _ h => by rw [h5] at h; cases h
              clear h5
              go_wp2
              refine wp_region_grown (by kernel_rfl) (by kernel_rfl) ?_
              repeat (go_big_quiet_step (fail))
              go_big_quiet_want
              go_big_quiet_op
              go_big_quiet_call (exact calls_grown (unhide S1 _))
              repeat (go_big_quiet_step (fail))
              refine wpQuiet_nil ?_
              intro w1 hw1
              obtain ⟨z', hz⟩ := hw1
              have hb1 : Below wr.heap.size wr w1 := hz ▸ z'.ok
              clear hz gsome
              go_wp2
              go_roundg (s.D.length - (q + 1))
              case measure => omega
              case rel => exact ⟨q + 1, M, a, by omega, rfl, by go_num, rfl, hide ((unhide HQ).step hb1), HBF, (unhide HST).grow (fun p' q' hp' hq' hd' => by
                by_cases e : p' = p ∧ q' = q
                · right; rw [e.1, e.2]; exact unhide HREST
                · left; omega)⟩
            | true =>
              rw [h5] at S1
              by_cases c2 : mp < 0
              · have d4 : decide (mp < 0) = true := decide_eq_true c2
                go_wp2
                refine wp_region_grown (by kernel_rfl) (by kernel_rfl) ?_
                repeat (go_big_quiet_step (fail))
                go_big_quiet_want
                go_big_quiet_op
                go_big_quiet_call (exact calls_grown (unhide S1 _))
                repeat (go_big_quiet_step (fail))
                refine wpQuiet_nil ?_
                intro w1 hw1
                obtain ⟨z', hz⟩ := hw1
                have hb1 : Below wr.heap.size wr w1 := hz ▸ z'.ok
                clear hz gsome
                have y2 := OwnV.cell (OwnV.step (unhide HQ).ob hb1) (i := 2) rfl
                have yQ := (hb1.cell (lt_of_cell eQ)).trans eQ
                have yD := (hb1.cell (lt_of_cell eD)).trans eD
                have yP := (hb1.cell (lt_of_cell eP)).trans eP
                have HQ1 := hide ((unhide HQ).step hb1)
                have fz := (unhide HQ1).oo.frozen
                have HQ2 := hide ((unhide HQ1).put (p := p) (by rw [(unhide HBF).len]; exact hpn) (mq + dp))
                have HPUT := hide ((unhide HBF).put (unhide HN) hpn hqn (by rw [unhide EMQ]; exact c1) (by rw [unhide EDP]; omega) h5 (by rw [unhide EMQ, unhide EMP, unhide EDP]; omega))
                rw [unhide EMQ, unhide EDP] at HPUT
                have qs : IntKind.i64.wrap (mq + dp) = mq + dp := by rw [IntKind.wrap_i64]; omega
                clear hb1 p0 p1 p2 p3 rQ rP rD S1 a0 a1 a2 a3
                go_wp2
                go_region_with (fail)
                all_goals
                  go_wp2
                  go_roundg (s.D.length - (q + 1))
                  case measure => omega
                  case rel => first | exact ⟨q + 1, M.set p (mq + dp), true, by omega, rfl, by go_num, rfl, HQ2, hide (unhide HPUT).1, (unhide HST).put (unhide HPUT).2⟩ | exact ⟨q + 1, M.set p (mq + dp), true, by omega, rfl, by go_num, rfl, hide ((unhide HQ2).step (below_drewN (Below.refl _ _) _)), hide (unhide HPUT).1, (unhide HST).put (unhide HPUT).2⟩
              have d4 : decide (mp < 0) = false := decide_eq_false c2
              have qq : IntKind.i64.wrap (mq + dp) = mq + dp := by rw [IntKind.wrap_i64]; omega
              by_cases c3 : mq + dp < mp
              · have d5 : decide (mq + dp < mp) = true := decide_eq_true c3
                go_wp2
                refine wp_region_grown (by kernel_rfl) (by kernel_rfl) ?_
                repeat (go_big_quiet_step (fail))
                go_big_quiet_want
                go_big_quiet_op
                go_big_quiet_call (exact calls_grown (unhide S1 _))
                repeat (go_big_quiet_step (fail))
                refine wpQuiet_nil ?_
                intro w1 hw1
                obtain ⟨z', hz⟩ := hw1
                have hb1 : Below wr.heap.size wr w1 := hz ▸ z'.ok
                clear hz gsome
                have y2 := OwnV.cell (OwnV.step (unhide HQ).ob hb1) (i := 2) rfl
                have yQ := (hb1.cell (lt_of_cell eQ)).trans eQ
                have yD := (hb1.cell (lt_of_cell eD)).trans eD
                have yP := (hb1.cell (lt_of_cell eP)).trans eP
                have HQ1 := hide ((unhide HQ).step hb1)
                have fz := (unhide HQ1).oo.frozen
                have HQ2 := hide ((unhide HQ1).put (p := p) (by rw [(unhide HBF).len]; exact hpn) (mq + dp))
                have HPUT := hide ((unhide HBF).put (unhide HN) hpn hqn (by rw [unhide EMQ]; exact c1) (by rw [unhide EDP]; omega) h5 (by rw [unhide EMQ, unhide EMP, unhide EDP]; omega))
                rw [unhide EMQ, unhide EDP] at HPUT
                have qs : IntKind.i64.wrap (mq + dp) = mq + dp := by rw [IntKind.wrap_i64]; omega
                clear hb1 p0 p1 p2 p3 rQ rP rD S1 a0 a1 a2 a3
                go_wp2
                go_region_with (fail)
                all_goals
                  go_wp2
                  go_roundg (s.D.length - (q + 1))
                  case measure => omega
                  case rel => first | exact ⟨q + 1, M.set p (mq + dp), true, by omega, rfl, by go_num, rfl, HQ2, hide (unhide HPUT).1, (unhide HST).put (unhide HPUT).2⟩ | exact ⟨q + 1, M.set p (mq + dp), true, by omega, rfl, by go_num, rfl, hide ((unhide HQ2).step (below_drewN (Below.refl _ _) _)), hide (unhide HPUT).1, (unhide HST).put (unhide HPUT).2⟩
              · have d5 : decide (mq + dp < mp) = false := decide_eq_false c3
                have HREST : Hid (Rest s M p q) := fun _ _ _ => by rw [unhide EMP, unhide EMQ, unhide EDP]; omega
                go_wp2
                refine wp_region_grown (by kernel_rfl) (by kernel_rfl) ?_
                repeat (go_big_quiet_step (fail))
                go_big_quiet_want
                go_big_quiet_op
                go_big_quiet_call (exact calls_grown (unhide S1 _))
                repeat (go_big_quiet_step (fail))
                refine wpQuiet_nil ?_
                intro w1 hw1
                obtain ⟨z', hz⟩ := hw1
                have hb1 : Below wr.heap.size wr w1 := hz ▸ z'.ok
                clear hz gsome
                go_wp2
                go_roundg (s.D.length - (q + 1))
                case measure => omega
                case rel => exact ⟨q + 1, M, a, by omega, rfl, by go_num, rfl, hide ((unhide HQ).step hb1), HBF, (unhide HST).grow (fun p' q' hp' hq' hd' => by
                  by_cases e : p' = p ∧ q' = q
                  · right; rw [e.1, e.2]; exact unhide HREST
                  · left; omega)⟩

end Go.Proofs.Ytdpcacfgbjllhaa

/- The contract of the program's Cheapest. Written by wip/mkdj.py. -/
namespace Go.Proofs.Ytdpcacfgbjllhaa
open Go.RowKit

theorem QI.kept {T : Nat → Prop} {w W W' : World} {box : List Value} {g : Nat} {M : List Int} (h : QI w W box g M) (hk : Kept T W W') (h1 : ¬ T w.heap.size) (h2 : ¬ T g) (h3 : ∀ b, T b → w.heap.size ≤ b) : QI w W' box g M :=
  ⟨h.below.trans (hk.below h.below.size h3), h.ob.kept hk h1, h.oo.kept hk h2, h.h1⟩
/-- The sea's box, the costs, and the frontier at block gf. -/
structure DQ (w W : World) (box : List Value) (gh gf : Nat) (M : List Int) (sv : Value) (n : Nat) (L : List Rc) : Prop where
  q : QI w W box gh M
  fr : FrN W (gf + 1) gf sv n L
  hg : gh < gf
theorem DQ.step {w W W' : World} {box : List Value} {gh gf : Nat} {M : List Int} {sv : Value} {n : Nat} {L : List Rc} (h : DQ w W box gh gf M sv n L) (hb : Below W.heap.size W W') : DQ w W' box gh gf M sv n L := ⟨h.q.step hb, h.fr.below hb, h.hg⟩
theorem DQ.lt {w W : World} {box : List Value} {gh gf : Nat} {M : List Int} {sv : Value} {n : Nat} {L : List Rc} (h : DQ w W box gh gf M sv n L) : w.heap.size < gh ∧ gf < W.heap.size := ⟨h.q.h1, h.fr.box.lt⟩
theorem DQ.put {w W : World} {box : List Value} {gh gf : Nat} {M : List Int} {sv : Value} {n : Nat} {L : List Rc} (h : DQ w W box gh gf M sv n L) {p : Nat} (hp : p < M.length) (v : Int) : DQ w (W.setCell ⟨gh, p, none⟩ (.int .i64 v)) box gh gf (M.set p v) sv n L := by
  have h1 := h.hg
  refine ⟨h.q.put hp v, ⟨h.fr.box.other (a := ⟨gh, p, none⟩) (by show gf ≠ gh; omega) _, ownsRow_setCell_other h.fr.row (a := ⟨gh, p, none⟩) (fun e => ?_) _, h.fr.len, h.fr.lt⟩, h.hg⟩
  have := (h.fr.own e).1
  simp only at this
  omega
theorem Kept.setOn {T : Nat → Prop} {w w' : World} (h : Kept T w w') (p : Addr) (hp : T p.block) (u : Value) : Kept T w (w'.setCell p u) := h.setCell hp u
theorem rc_mem {L : List Rc} (h : 0 < L.length) : L.getD 0 (0, 0) ∈ L := by
  rw [getD_lt h]
  exact List.getElem_mem h
theorem rc_least {L : List Rc} (h : Hp L L.length) {e : Rc} (he : e ∈ L) : (L.getD 0 (0, 0)).1 ≤ e.1 := by
  obtain ⟨i, hi, rfl⟩ := List.mem_iff_getElem.1 he
  have := h.least i hi
  rw [getD_lt hi] at this
  unfold rlt at this
  omega
theorem one_list {L : List Rc} {z : Rc} (h : 1 = L.length) (hm : ∀ e, e ∈ L ↔ e ∈ ([] : List Rc) ∨ e = z) : L = [z] := by
  match L, h with
  | [a], _ =>
    have := (hm a).1 (by simp)
    simp at this
    rw [this]
  | [], h => simp at h
  | a :: b :: t, h => simp at h
theorem OwnSl.at {B : Nat} {w : World} {a : Option Addr} {n cp : Nat} {xs : List Int} (h : OwnSl B w (.slice a n cp) xs) : n = xs.length := by
  obtain ⟨a', c', e, -⟩ := h
  simp only [Value.slice.injEq] at e
  exact e.2.1
theorem OwnSl.row {B : Nat} {w : World} {a : Option Addr} {n cp k : Nat} {xs : List Int} (h : OwnSl B w (.slice a n cp) xs) (hk : k < xs.length) : ∃ g, a = some ⟨g, 0, none⟩ ∧ B ≤ g ∧ OwnV w g (ints xs) := by
  obtain ⟨a', c', e, -, -, h3⟩ := h
  simp only [Value.slice.injEq] at e
  rw [e.1]
  exact h3 (fun h => by rw [h] at hk; simp at hk)
theorem nbs_len (wd n q : Int) : (nbs wd n q).length ≤ 4 := by
  unfold nbs
  simp only [List.length_append]
  split <;> split <;> split <;> split <;> simp

set_option maxRecDepth 100000 in
set_option maxHeartbeats 32000000 in
theorem implCheapest_any (s : Se) (dao : Option Addr) (dn dc : Nat) (fao : Option Addr) (fn fc : Nat) (x : Int) (w : World) (hD : IntsIn w (.slice dao dn dc) s.D) (hF : RClosed w (.slice fao fn fc) s.F) :
    Calls Try.prog 8 #[vSea s.wd s.hg (.slice dao dn dc) (.slice fao fn fc), .int .i64 x] w fun e w' => CheapPost s x w w' e := by
  have A := Below.alloc1 w (.cells #[.int .i64 s.wd, .int .i64 s.hg, .slice dao dn dc, .slice fao fn fc] 27)
  have O := ownV_alloc w #[.int .i64 s.wd, .int .i64 s.hg, .slice dao dn dc, .slice fao fn fc] 27
  have HOK := hide (implSeaOk_any s dao dn dc fao fn fc _ (hD.below A) (hF.below A))
  have HD := hide hD
  obtain ⟨dao', dc', eD, hdl, hdm, hdc⟩ := hD
  simp only [Value.slice.injEq] at eD
  obtain ⟨rfl, rfl, rfl⟩ := eD
  have HDC := hide hdc
  have HW := hide A
  have HO := hide O
  have b0 := O.cell (i := 0) rfl
  have b1 := O.cell (i := 1) rfl
  have b2 := O.cell (i := 2) rfl
  have b3 := O.cell (i := 3) rfl
  clear A O hdc hF
  unfold vSea at HOK ⊢
  cases h1 : seaB s with
  | false =>
    have HC : Hid (CheapAns s x [] false) := Or.inr ⟨by rw [h1]; rfl, rfl, rfl⟩
    rw [h1] at HOK
    go_enter Try.func8, Try.ntmps8
    go_wp2_with fail
    refine (unhide HOK).mono ?_
    rintro e w1 ⟨rfl, hb⟩
    replace HW := hide (Below.step (unhide HW) hb)
    clear hb HOK
    go_wp2
    refine bodyPost_ret (v := .tuple #[.slice none 0 0, .bool false]) (by simp [results, Try.results8, go_sem]) rfl (cheapPost_mk (unhide HC) ⟨none, 0, rfl, Nat.le_refl _, Nat.zero_le _, fun h => absurd rfl h⟩ (unhide HW))
  | true =>
  rw [h1] at HOK
  have hn := seaB_n h1
  have HPL := hide fun V => isOnSea_any s x dao dc (.slice fao fn fc) V hn
  unfold vSea at HPL
  cases h2 : onB s x with
  | false =>
    have HC : Hid (CheapAns s x [] false) := Or.inr ⟨by rw [h1, h2]; rfl, rfl, rfl⟩
    rw [h2] at HPL
    go_enter Try.func8, Try.ntmps8
    go_wp2_with fail
    refine (unhide HOK).mono ?_
    rintro e w1 ⟨rfl, hb⟩
    replace HW := hide (Below.step (unhide HW) hb)
    replace HO := hide (OwnV.step (unhide HO) hb)
    clear hb HOK b0 b1 b2 b3
    have b0 := (unhide HO).cell (i := 0) rfl
    have b1 := (unhide HO).cell (i := 1) rfl
    have b2 := (unhide HO).cell (i := 2) rfl
    have b3 := (unhide HO).cell (i := 3) rfl
    go_wp2_with fail
    refine (unhide HPL _).mono ?_
    rintro e w2 ⟨rfl, hb⟩
    replace HW := hide (Below.step (unhide HW) hb)
    clear hb HPL
    go_wp2
    refine bodyPost_ret (v := .tuple #[.slice none 0 0, .bool false]) (by simp [results, Try.results8, go_sem]) rfl (cheapPost_mk (unhide HC) ⟨none, 0, rfl, Nat.le_refl _, Nat.zero_le _, fun h => absurd rfl h⟩ (unhide HW))
  | true =>
  rw [h2] at HPL
  obtain ⟨xi, rfl, hxi⟩ : ∃ q : Nat, x = (q : Int) ∧ q < s.D.length := by
    have h3 := h2
    unfold onB at h3
    obtain ⟨a, b⟩ := inB_true h3
    exact ⟨x.toNat, by omega, by omega⟩
  obtain ⟨bd, od, rfl, hcd⟩ := unhide HDC xi hxi
  have hxiI : (xi : Int) < s.D.length := by omega
  have hle := hn.le
  have hleI : (s.D.length : Int) ≤ 144 := by omega
  obtain ⟨dx, edx⟩ : ∃ c, s.D.getD xi 0 = c := ⟨_, rfl⟩
  have EDX := hide edx
  have hdx0 := (hn.cost xi hxi).1
  rw [edx] at hdx0
  have HN := hide hn
  have H1 := hide h1
  have H12 : Hid ((seaB s && onB s (xi : Int)) = true) := by show _ = _; rw [h1, h2]; rfl
  have HSA := hide fun V h q => isSailed_any s q (some ⟨bd, od, none⟩) s.D.length dc (.slice fao fn fc) V hn h
  have HNB := hide fun V h q => neighbours_any s q (some ⟨bd, od, none⟩) s.D.length dc (.slice fao fn fc) V hn h
  unfold vSea at HSA HNB
  have hsx : sailB s (xi : Int) = !decide (dx = 0) := by unfold sailB; rw [h2]; show (true && !decide (s.D.getD xi 0 = 0)) = _; rw [edx]; rfl
  clear hcd edx hn h1 h2
  go_enter Try.func8, Try.ntmps8
  go_wp2_with fail
  refine (unhide HOK).mono ?_
  rintro e w1 ⟨rfl, hb⟩
  replace HW := hide (Below.step (unhide HW) hb)
  replace HO := hide (OwnV.step (unhide HO) hb)
  clear hb HOK b0 b1 b2 b3
  have b0 := (unhide HO).cell (i := 0) rfl
  have b1 := (unhide HO).cell (i := 1) rfl
  have b2 := (unhide HO).cell (i := 2) rfl
  have b3 := (unhide HO).cell (i := 3) rfl
  go_wp2_with fail
  refine (unhide HPL _).mono ?_
  rintro e w2 ⟨rfl, hb⟩
  replace HW := hide (Below.step (unhide HW) hb)
  replace HO := hide (OwnV.step (unhide HO) hb)
  clear hb HPL b0 b1 b2 b3
  have b2 := (unhide HO).cell (i := 2) rfl
  have A1 := Below.alloc1 w2 (.cells #[.int .i64 (-1)] 3)
  have HRE := hide (repeat1_any w2.heap.size 0 1 (-1) s.D.length (w2.alloc (.cells #[.int .i64 (-1)] 3)) ((ownV_alloc w2 #[.int .i64 (-1)] 3).cell (i := 0) rfl) (by omega) (by omega))
  replace HW := hide (Below.step (unhide HW) A1)
  replace HO := hide (OwnV.step (unhide HO) A1)
  have b2' := (unhide HO).cell (i := 2) rfl
  clear A1
  go_wp2_with fail
  refine (unhide HRE).mono ?_
  rintro e w3 ⟨gh, rfl, hgh, hoh, hb⟩
  replace HW := hide (Below.step (unhide HW) hb)
  replace HO := hide (OwnV.step (unhide HO) hb)
  have hghs : w.heap.size < gh := by have h8 : w.heap.size < w2.heap.size := lt_of_cell b2; simp only [World.size_alloc] at hgh; omega
  have HQ : Hid (QI w w3 [.int .i64 s.wd, .int .i64 s.hg, .slice (some ⟨bd, od, none⟩) s.D.length dc, .slice fao fn fc] gh (List.replicate s.D.length (-1))) := ⟨unhide HW, unhide HO, hoh, hghs⟩
  clear hb HRE b2 b2' hoh hgh HW HO
  have hgl := (unhide HQ).oo.lt
  have A1 := Below.alloc1 w3 (.cells #[.slice none 0 0] 61)
  have HDQ : Hid (DQ w (w3.alloc (.cells #[.slice none 0 0] 61)) [.int .i64 s.wd, .int .i64 s.hg, .slice (some ⟨bd, od, none⟩) s.D.length dc, .slice fao fn fc] gh w3.heap.size (List.replicate s.D.length (-1)) (.slice none 0 0) 0 []) :=
    ⟨(unhide HQ).step A1, ⟨ownV_alloc w3 #[.slice none 0 0] 61, ⟨rfl, Or.inl ⟨rfl, rfl⟩⟩, rfl, by omega⟩, hgl⟩
  have HO := hide (unhide HDQ).q.ob
  have b0 := (unhide HO).cell (i := 0) rfl
  have b1 := (unhide HO).cell (i := 1) rfl
  have b2 := (unhide HO).cell (i := 2) rfl
  have b3 := (unhide HO).cell (i := 3) rfl
  have HSA1 := hide (unhide HSA _ ((unhide HD).below (unhide HDQ).q.below) (xi : Int))
  rw [hsx] at HSA1
  clear A1 HQ
  go_wp2_with fail
  refine (unhide HSA1).mono ?_
  rintro e w4 ⟨rfl, hb⟩
  replace HDQ := hide ((unhide HDQ).step hb)
  have hz3 := hb.size
  simp only [World.size_alloc] at hz3
  generalize w3.heap.size = gf at *
  clear hb HSA1 b0 b1 b2 b3 HO
  by_cases hd0 : dx = 0
  · have HC : Hid (CheapAns s (xi : Int) (List.replicate s.D.length (-1)) true) := Or.inl ⟨unhide H12, rfl, by simp, Or.inl ⟨by show s.D.getD xi 0 = 0; rw [unhide EDX]; exact hd0, rfl⟩⟩
    have HOW := hide ((unhide HDQ).q.own (by simp; exact hle))
    rw [List.length_replicate] at HOW
    have HWW := hide (unhide HDQ).q.below
    have c0 := (unhide HDQ).fr.box.cell (i := 0) rfl
    have hd1 : (!decide (dx = 0)) = false := by simp [hd0]
    rw [hd1]
    have HLE := hide (lenR_any none 0 0 w4)
    clear hd1 hd0 hsx
    go_wp2
    go_loopg [8] 0 (fun g v8 wr => wr = w4)
    case atStart => rfl
    case round =>
      subst hrel
      go_wp2_with fail
      refine (unhide HLE).mono ?_
      rintro e w' ⟨rfl, h9⟩
      subst h9
      go_wp2
      refine bodyPost_ret (v := .tuple #[.slice (some ⟨gh, 0, none⟩) s.D.length s.D.length, .bool true]) (by simp [results, Try.results8, go_sem]) rfl (cheapPost_mk (unhide HC) (unhide HOW) (unhide HWW))
  have hd1 : (!decide (dx = 0)) = true := by simp [hd0]
  rw [hd1]
  have hdx : 0 < dx := by omega
  clear hd1 hsx hd0
  have HPU := hide (heapPush_any (gf + 1) gf (.slice none 0 0) 0 [] 0 (xi : Int) w4 (unhide HDQ).fr (fun c h0 hc => by omega) (by omega) (by omega))
  go_wp2_with fail
  refine (unhide HPU).mono ?_
  rintro e w5 ⟨rfl, g1, cap1, L1, hf, hp, hmem, hat, hk⟩
  have hl1 := one_list hf.len hmem
  subst hl1
  obtain ⟨hq1, hq2⟩ := (unhide HDQ).lt
  have hq3 := (unhide HDQ).hg
  have HD5 : Hid (DQ w w5 [.int .i64 s.wd, .int .i64 s.hg, .slice (some ⟨bd, od, none⟩) s.D.length dc, .slice fao fn fc] gh gf (List.replicate s.D.length (-1)) (.slice (some ⟨g1, 0, none⟩) 1 cap1) 1 [(0, (xi : Int))]) :=
    ⟨(unhide HDQ).q.kept hk (fun e => by rcases e with e | e; omega; cases e) (fun e => by rcases e with e | e; omega; cases e) (fun b e => by rcases e with e | e; omega; cases e), hf, hq3⟩
  have HP5 := hide hp
  have HJ5 := hide (dj_start hxi (by rw [unhide EDX]; exact hdx))
  clear hf hp hmem hat hk HPU HDQ hz3
  go_wp2
  go_loopg [8] (5 * s.D.length + 1) (fun g v8 wr => ∃ (M : List Int) (L : List Rc) (t : Int) (n : Nat) (sv : Value), g = 5 * (s.D.length - cnt M) + n ∧ g ≤ 5 * s.D.length + 1 ∧ Hid (DQ w wr [.int .i64 s.wd, .int .i64 s.hg, .slice (some ⟨bd, od, none⟩) s.D.length dc, .slice fao fn fc] gh gf M sv n L) ∧ Hid (Hp L n) ∧ Hid (Dj s xi M L t (fun _ _ => False)))
  case atStart => exact ⟨_, _, 0, 1, _, by rw [cnt_none]; omega, Nat.le_refl _, HD5, HP5, HJ5⟩
  case round =>
    clear HD5 HP5 HJ5
    obtain ⟨M, L, t, n, sv, hg1, hg2, HQ, HP, HJ⟩ := hrel
    have HG1 := hide hg1
    have hnb : n ≤ 5 * s.D.length + 1 := by omega
    clear hg1
    have hML := (unhide HJ).len
    have hML1 : M.length ≤ s.D.length := by omega
    have hML2 : s.D.length ≤ M.length := by omega
    have HML := hide hML
    clear hML
    obtain ⟨a, cap, rfl, hcap⟩ := (unhide HQ).fr.sl
    have c0 := (unhide HQ).fr.box.cell (i := 0) rfl
    have HLE := hide (lenR_any a n cap wr)
    obtain ⟨hq1, hq2⟩ := (unhide HQ).lt
    have hq3 := (unhide HQ).hg
    cases n with
    | zero =>
      have hL0 : L = [] := by have := (unhide HQ).fr.len; exact List.eq_nil_of_length_eq_zero this.symm
      subst hL0
      have HC : Hid (CheapAns s (xi : Int) M true) := Or.inl ⟨unhide H12, rfl, unhide HML, Or.inr ⟨by show s.D.getD xi 0 ≠ 0; rw [unhide EDX]; omega, (unhide HJ).proved (unhide HN) (unhide H1) hxi (by rw [unhide EDX]; exact hdx)⟩⟩
      have HOW := hide ((unhide HQ).q.own (by omega))
      rw [unhide HML] at HOW
      have HWW := hide (unhide HQ).q.below
      clear HJ HP HQ
      go_wp2_with fail
      refine (unhide HLE).mono ?_
      rintro e w' ⟨rfl, h9⟩
      subst h9
      go_wp2
      refine bodyPost_ret (v := .tuple #[.slice (some ⟨gh, 0, none⟩) s.D.length s.D.length, .bool true]) (by simp [results, Try.results8, go_sem]) rfl (cheapPost_mk (unhide HC) (unhide HOW) (unhide HWW))
    | succ m =>
    have hLl := (unhide HQ).fr.len
    obtain ⟨g, cap', eg, hcap', hgB⟩ := (unhide HQ).fr.got
    simp only [Value.slice.injEq, true_and] at eg
    obtain ⟨rfl, rfl⟩ := eg
    have hin : L.getD 0 (0, 0) ∈ L := rc_mem (by omega)
    have HLS : Hid (∀ e, e ∈ L → (L.getD 0 (0, 0)).1 ≤ e.1) := fun e he => rc_least (by rw [← hLl]; exact unhide HP) he
    have HCH := hide (frCheapest_any (gf + 1) gf g m cap L wr (unhide HQ).fr.fr (unhide HP) (by omega) hcap')
    obtain ⟨p, ep, hpn, hdp, htc, hcb, hwy⟩ := (unhide HJ).ent _ hin
    have hct := (unhide HJ).cnt_le
    have ht0 := (unhide HJ).t0
    obtain ⟨c, ec⟩ : ∃ c, (L.getD 0 (0, 0)).1 = c := ⟨_, rfl⟩
    have hz : L.getD 0 (0, 0) = (c, (p : Int)) := by rw [← ec, ← ep]
    rw [ec] at HLS
    rw [hz] at HCH
    rw [ec] at htc hcb
    dsimp only at HCH
    have hc0 : 0 ≤ c := by omega
    have hc1 : c ≤ 144000 := by omega
    have hpI : (p : Int) < s.D.length := by omega
    clear hwy hin ep ec hz hLl
    go_wp2_with fail
    refine (unhide HLE).mono ?_
    rintro e w' ⟨rfl, h9⟩
    subst h9
    clear HLE
    have hm0 : (0 : Int) < ((m + 1 : Nat) : Int) := by omega
    go_wp2_with fail
    refine (unhide HCH).mono ?_
    rintro e w2 ⟨rfl, L', hp, hmem, hf, hk⟩
    have hgl := ((unhide HQ).fr.own (g := g) rfl).2
    have A1 := Below.alloc1 w2 (.cells #[.int .i64 c, .int .i64 (p : Int)] 64)
    have HQ2 : Hid (DQ w w2 [.int .i64 s.wd, .int .i64 s.hg, .slice (some ⟨bd, od, none⟩) s.D.length dc, .slice fao fn fc] gh gf M (.slice (some ⟨g, 0, none⟩) m cap) m L') :=
      ⟨(unhide HQ).q.kept hk (fun e => by omega) (fun e => by omega) (fun b e => by omega), FrN.of hf (by omega), hq3⟩
    have HNW := hide (ownV_alloc w2 #[.int .i64 c, .int .i64 (p : Int)] 64)
    have hz2 := hk.size
    have HP2 := hide hp
    have HM2 := hide hmem
    replace HQ2 := hide ((unhide HQ2).step A1)
    have cp := (unhide HQ2).q.oo.cell (i := p) (ints_at (by omega))
    have fp := (unhide HQ2).q.oo.frozen
    have n0 := (unhide HNW).cell (i := 0) rfl
    have n1 := (unhide HNW).cell (i := 1) rfl
    obtain ⟨mp, emp⟩ : ∃ z, M.getD p 0 = z := ⟨_, rfl⟩
    have hlow := (unhide HJ).low p hpn
    rw [emp] at cp hlow
    have EMP := hide emp
    clear hp hmem hf hk A1 HCH HQ HP c0 emp
    by_cases hmp : mp = -1
    case neg =>
      have HJ2 := hide ((unhide HJ).old (unhide HM2) (by rw [unhide EMP]; omega))
      have dm : (mp != -1) = true := by simp [hmp]
      go_wp2
      go_roundg (5 * (s.D.length - cnt M) + m)
      case measure => have := unhide HG1; omega
      case rel => exact ⟨M, L', t, m, _, rfl, by have := unhide HG1; omega, HQ2, HP2, HJ2⟩
    subst hmp
    obtain ⟨hj, hcn, -, -, -, hx0⟩ := (unhide HJ).settle (unhide HN) (unhide HM2) (unhide HLS) (by rw [unhide EMP]; omega)
    have hct2 : cnt M + 1 ≤ s.D.length := by have := hj.cnt_le; omega
    have HQ3 := hide ((unhide HQ2).put (p := p) (by omega) c)
    have HX0 := hide hx0
    have HCN := hide hcn
    have HMP : Hid ((M.set p c).getD p 0 = c) := by show _ = _; rw [getD_set (by omega), if_pos rfl]
    have HML3 : Hid ((M.set p c).length = s.D.length) := by show _ = _; rw [List.length_set]; exact unhide HML
    have HJ3 : Hid (Dj s xi (M.set p c) L' c (fun p' q => q = p ∧ (p' : Int) ∈ (nbs s.wd s.D.length (p : Int)).drop 0)) := hj.less (fun p' q h1 h2 h3 h4 _ _ => ⟨h3, by
      rw [List.drop_zero, nbs_mem (unhide HN) (by omega) hpI]
      exact ⟨by omega, by omega, by rw [next_comm, ← h3]; exact h4⟩⟩)
    have HN3 := hide ((unhide HNW).other (a := ⟨gh, p, none⟩) (by show w2.heap.size ≠ gh; omega) (.int .i64 c))
    have hq4 := (unhide HQ2).lt.2
    have hz4 : ((w2.alloc (.cells #[.int .i64 c, .int .i64 (p : Int)] 64)).setCell ⟨gh, p, none⟩ (.int .i64 c)).heap.size = w2.heap.size + 1 := by rw [World.size_setCell, World.size_alloc]
    go_upto_region 11 with (fail)
    obtain ⟨V, eV⟩ : ∃ z, z = (w2.alloc (.cells #[.int .i64 c, .int .i64 (p : Int)] 64)).setCell ⟨gh, p, none⟩ (.int .i64 c) := ⟨_, rfl⟩
    rw [← eV] at HQ3 HN3 hz4 ⊢
    obtain ⟨gN, egN⟩ : ∃ z, z = w2.heap.size := ⟨_, rfl⟩
    rw [← egN] at HN3 hz4 ⊢
    have hgN1 : g < gN := by omega
    have hgN2 : gf < gN := by omega
    have hgN3 : w.heap.size < gN := by omega
    clear eV egN cp fp n0 n1 hq4 HNW HQ2 hj hcn hx0 hz2
    obtain ⟨M', eM'⟩ : ∃ z, z = M.set p c := ⟨_, rfl⟩
    rw [← eM'] at HQ3 HX0 HCN HMP HML3 HJ3
    have HMM : Hid (∀ e : Nat, e ≠ p → M'.getD e 0 = M.getD e 0) := fun e he => by rw [eM', getD_set (by omega), if_neg he]
    clear eM'
    obtain ⟨NB, eNB⟩ : ∃ z, z = nbs s.wd s.D.length (p : Int) := ⟨_, rfl⟩
    have HMEM : Hid (∀ b, b ∈ NB ↔ (0 ≤ b ∧ b < s.D.length ∧ nextB s.wd (p : Int) b = true)) := fun b => by rw [eNB]; exact nbs_mem (unhide HN) (by omega) hpI
    have hNB4 : NB.length ≤ 4 := by rw [eNB]; exact nbs_len _ _ _
    have HNB1 := hide (unhide HNB V ((unhide HD).below (unhide HQ3).q.below) (p : Int) (by omega) hpI)
    rw [← eNB] at HNB1 HJ3
    have HO := hide (unhide HQ3).q.ob
    have b0 := (unhide HO).cell (i := 0) rfl
    have b1 := (unhide HO).cell (i := 1) rfl
    have b2 := (unhide HO).cell (i := 2) rfl
    have b3 := (unhide HO).cell (i := 3) rfl
    have n1 := (unhide HN3).cell (i := 1) rfl
    clear eNB
    go_wp2_with fail
    refine (unhide HNB1).mono ?_
    rintro e wi ⟨na, nn, ncp, rfl, hno, hb⟩
    have hnn := hno.at
    subst hnn
    have HNR : Hid (∀ k, k < NB.length → ∃ g2, na = some ⟨g2, 0, none⟩ ∧ gN < g2 ∧ OwnV wi g2 (ints NB)) := fun k hk => by
      obtain ⟨g2, e1, e2, e3⟩ := hno.row hk
      exact ⟨g2, e1, by omega, e3⟩
    replace HQ3 := hide ((unhide HQ3).step hb)
    replace HN3 := hide ((unhide HN3).step hb)
    have hzi : gN < wi.heap.size := by have := hb.size; omega
    have HKI := hide (Kept.refl (fun b => b = gf ∨ b = g) wi)
    have HFI := hide (unhide HQ3).fr
    have HQI := hide (unhide HQ3).q
    clear hb hno HNB1 b0 b1 b2 b3 n1 HO HQ3 hz4
    generalize wr = wo at *
    go_wp2
    go_loopg [61] NB.length (fun g2 kv wr => ∃ (k : Nat) (H : List Rc) (n : Nat) (sv : Value), k ≤ NB.length ∧ g2 = NB.length - k ∧ kv = .int .i64 (k : Int) ∧ n ≤ m + k ∧ Hid (FrN wr (gf + 1) gf sv n H) ∧ Hid (Hp H n) ∧ Hid (Dj s xi M' H c (fun p' q => q = p ∧ (p' : Int) ∈ NB.drop k)) ∧ Hid (Kept (fun b => b = gf ∨ b = g) wi wr) ∧ Hid (∀ b, sv.ownBlock = some b → b = g ∨ wi.heap.size ≤ b))
    case atStart => exact ⟨0, L', m, _, Nat.zero_le _, rfl, rfl, by omega, HFI, HP2, HJ3, HKI, fun b e => Or.inl (by simpa [Value.ownBlock] using e.symm)⟩
    case round =>
      clear HFI HP2 HJ3 HKI
      obtain ⟨k, H, n, sv, hk, rfl, rfl, hnk, HF, HHp, HJ4, HK, HSV⟩ := hrel
      have hzw := (unhide HK).size
      have HQ4 := hide ((unhide HQI).kept (unhide HK) (fun e => by omega) (fun e => by omega) (fun b e => by omega))
      have HN4 := hide ((unhide HN3).kept (unhide HK) (fun e => by omega))
      by_cases hkn : k < NB.length
      case neg =>
        have hke : k = NB.length := by omega
        subst hke
        have hki : ¬ (NB.length : Int) < NB.length := by omega
        have HJ5 : Hid (Dj s xi M' H c (fun _ _ => False)) := (unhide HJ4).less (fun p' q _ _ h3 _ _ _ => by rw [List.drop_length] at h3; simp at h3)
        have HQ5 : Hid (DQ w wr [.int .i64 s.wd, .int .i64 s.hg, .slice (some ⟨bd, od, none⟩) s.D.length dc, .slice fao fn fc] gh gf M' sv n H) := ⟨unhide HQ4, unhide HF, hq3⟩
        clear HQ4 HN4 HJ4 HF
        go_wp2
        go_roundg (5 * (s.D.length - cnt M') + n)
        case measure => have := unhide HG1; have := unhide HCN; omega
        case rel => exact ⟨M', H, c, n, sv, rfl, by have := unhide HG1; have := unhide HCN; omega, HQ5, HHp, HJ5⟩
      have hki : (k : Int) < NB.length := by omega
      obtain ⟨g2, rfl, hg2, ho2⟩ := unhide HNR k hkn
      have ho3 := ho2.kept (unhide HK) (fun e => by omega)
      have cy := ho3.cell (i := k) (ints_at hkn)
      have hym : NB.getD k 0 ∈ NB := by rw [getD_lt hkn]; exact List.getElem_mem hkn
      have hdr : NB.drop k = NB.getD k 0 :: NB.drop (k + 1) := by rw [getD_lt hkn]; exact List.drop_eq_getElem_cons hkn
      obtain ⟨y0, y1, ynx⟩ := (unhide HMEM _).1 hym
      obtain ⟨yn, eyn⟩ : ∃ q : Nat, NB.getD k 0 = (q : Int) := ⟨(NB.getD k 0).toNat, by omega⟩
      rw [eyn] at cy hdr y0 y1 ynx
      have hyn : yn < s.D.length := by omega
      have HDR := hide hdr
      have HYX := hide ynx
      obtain ⟨dy, edy⟩ : ∃ c, s.D.getD yn 0 = c := ⟨_, rfl⟩
      have hdy := (unhide HN).cost yn hyn
      rw [edy] at hdy
      obtain ⟨hdy0, hdy1⟩ := hdy
      have EDY := hide edy
      obtain ⟨my, emy⟩ : ∃ c, M'.getD yn 0 = c := ⟨_, rfl⟩
      have hmy := (unhide HJ4).low yn hyn
      rw [emy] at hmy
      have EMY := hide emy
      have hmlt : yn < M'.length := by have := unhide HML3; omega
      obtain ⟨bd', od', ebd, hcd⟩ := unhide HDC yn hyn
      simp only [Option.some.injEq, Addr.mk.injEq, and_true] at ebd
      obtain ⟨rfl, rfl⟩ := ebd
      rw [edy] at hcd
      have HCD := hide hcd
      have HO := hide (unhide HQ4).ob
      have b0 := (unhide HO).cell (i := 0) rfl
      have b1 := (unhide HO).cell (i := 1) rfl
      have b2 := (unhide HO).cell (i := 2) rfl
      have b3 := (unhide HO).cell (i := 3) rfl
      have hsy : sailB s (yn : Int) = !decide (dy = 0) := by
        unfold sailB
        rw [show onB s (yn : Int) = true by unfold onB; exact inB_mk (by omega) (by omega)]
        show (true && !decide (s.D.getD yn 0 = 0)) = _
        rw [edy]
        rfl
      have HSA2 := hide (unhide HSA wr ((unhide HD).below (unhide HQ4).below) (yn : Int))
      rw [hsy] at HSA2
      clear ho2 ho3 hym hdr y0 ynx eyn edy emy hcd hsy
      go_wp2_with fail
      refine (unhide HSA2).mono ?_
      rintro e w6 ⟨rfl, hb⟩
      replace HQ4 := hide ((unhide HQ4).step hb)
      replace HN4 := hide ((unhide HN4).step hb)
      replace HF := hide ((unhide HF).below hb)
      replace HK := hide ((unhide HK).trans (kept_of_below hb))
      replace hzw := (unhide HK).size
      clear hb HSA2 b0 b1 b2 b3 HO cy
      by_cases hd0 : dy = 0
      case pos =>
        have hd1 : (!decide (dy = 0)) = false := by simp [hd0]
        rw [hd1]
        have HJ5 : Hid (Dj s xi M' H c (fun p' q => q = p ∧ (p' : Int) ∈ NB.drop (k + 1))) := (unhide HJ4).less (fun p' q _ _ h3 _ h5 h6 => by rw [unhide HDR] at h3; rcases h3 with ⟨e1, h3⟩; rw [List.mem_cons] at h3; rcases h3 with h3 | h3; exact absurd h3 (fun e => by have e' : p' = yn := (by omega); subst e'; have := unhide EDY; omega); exact ⟨e1, h3⟩)
        clear hd1
        go_wp2
        go_roundg (NB.length - (k + 1))
        case measure => omega
        case rel => exact ⟨k + 1, H, n, sv, by omega, rfl, by go_num, by omega, HF, HHp, HJ5, HK, HSV⟩
      have hd1 : (!decide (dy = 0)) = true := by simp [hd0]
      rw [hd1]
      have cm := (unhide HQ4).oo.cell (i := yn) (ints_at hmlt)
      rw [unhide EMY] at cm
      by_cases hm1 : my = -1
      case neg =>
        have dm : (my == -1) = false := by simp [hm1]
        have HJ5 : Hid (Dj s xi M' H c (fun p' q => q = p ∧ (p' : Int) ∈ NB.drop (k + 1))) := (unhide HJ4).less (fun p' q _ _ h3 _ h5 h6 => by rw [unhide HDR] at h3; rcases h3 with ⟨e1, h3⟩; rw [List.mem_cons] at h3; rcases h3 with h3 | h3; exact absurd h3 (fun e => by have e' : p' = yn := (by omega); subst e'; have := unhide EMY; omega); exact ⟨e1, h3⟩)
        clear hd1
        go_wp2
        go_roundg (NB.length - (k + 1))
        case measure => omega
        case rel => exact ⟨k + 1, H, n, sv, by omega, rfl, by go_num, by omega, HF, HHp, HJ5, HK, HSV⟩
      subst hm1
      have HPU := hide fun X hX hB => heapPush_any (gf + 1) gf sv n H (c + dy) (yn : Int) X hX (unhide HHp) (by omega) hB
      have t0 := (unhide HN4).cell (i := 0) rfl
      have t1 := (unhide HQ4).ob.cell (i := 2) rfl
      have t2 := wcell3 (unhide HCD) (unhide HQ4).below
      have hwq : IntKind.i64.wrap (c + dy) = c + dy := by rw [IntKind.wrap_i64]; omega
      have yn1 : (yn : Int) < s.D.length := by omega
      have hdy2 : 0 < dy := by omega
      clear hd1 hd0
      go_wp2_with fail
      go_region_held3 (fun z => z.cell? ⟨gN, 0, none⟩ = some (.int .i64 c) ∧ z.cell? ⟨w.heap.size, 2, none⟩ = some (.slice (some ⟨bd, od, none⟩) s.D.length dc) ∧ z.cell? ⟨bd, od + yn, none⟩ = some (.int .i64 dy)) (go_keep) (first | (go_at_call 32; refine (unhide HPU _ (by first | exact unhide HF | exact (unhide HF).below (Below.refl _ _).drew) (by have := (unhide HF).box.lt; first | omega | (show gf + 1 ≤ w6.heap.size; omega))).mono ?_; rintro e w7 ⟨rfl, g3, cap3, H', hf, hp, hmem, hat, hk0⟩; have hk7 : Kept (fun b => b = gf ∨ sv.ownBlock = some b) w6 w7 := (by first | exact hk0 | exact Kept.drewL hk0); have HK7 : Hid (Kept (fun b => b = gf ∨ b = g) wi w7) := ((unhide HK).on hk7 (fun b hb e => by rcases e with e | e; exact Or.inl e; rcases unhide HSV b e with e | e; exact Or.inr e; omega)); have HF7 := hide hf; have HP7 := hide hp; have HM7 := hide hmem; have HS7 : Hid (∀ b, (Value.slice (some ⟨g3, 0, none⟩) (n + 1) cap3).ownBlock = some b → b = g ∨ wi.heap.size ≤ b) := (fun b e => by have e' : g3 = b := (by simpa [Value.ownBlock] using e); subst e'; rcases hat with h | h; exact unhide HSV _ h; right; first | omega | (have h' : w6.heap.size ≤ g3 := h; omega)); have HN7 := hide ((unhide HN3).kept (unhide HK7) (fun e => by omega)); have HQ7 := hide ((unhide HQI).kept (unhide HK7) (fun e => by omega) (fun e => by omega) (fun b e => by omega)); have s0 := (unhide HN7).cell (i := 0) rfl; have s1 := (unhide HQ7).ob.cell (i := 2) rfl; have s2 := wcell3 (unhide HCD) (unhide HQ7).below; clear hf hp hmem hat hk0 hk7))
      have HJ7 : Hid (Dj s xi M' H' c (fun p' q => q = p ∧ (p' : Int) ∈ NB.drop (k + 1))) := (unhide HJ4).push (p := yn) (q := p) (unhide HN) hyn hpn (unhide HMP) (by rw [unhide EDY]; omega) (by rw [next_comm]; exact unhide HYX) (unhide HX0) (fun e => by rw [unhide EDY]; exact unhide HM7 e) (fun p' q' h => by
        rw [unhide HDR, List.mem_cons] at h
        rcases h with ⟨e1, h | h⟩
        · exact Or.inl ⟨by omega, e1⟩
        · exact Or.inr ⟨e1, h⟩)
      go_wp2
      go_roundg (NB.length - (k + 1))
      case measure => omega
      case rel => exact ⟨k + 1, H', n + 1, _, by omega, rfl, by go_num, by omega, HF7, HP7, HJ7, HK7, HS7⟩

end Go.Proofs.Ytdpcacfgbjllhaa

/- What Cheapest tells is one thing alone. -/
namespace Go.Proofs.Ytdpcacfgbjllhaa
open Go.RowKit

theorem cheap_ex (s : Se) (x : Int) : ∃ cs : List Int × Bool, cs.1.length ≤ 1048576 ∧ ∀ N c, CheapAns s x N c → N = cs.1 ∧ c = cs.2 := by
  by_cases h : ∃ M b, CheapAns s x M b
  · obtain ⟨M, b, h⟩ := h
    refine ⟨(M, b), ?_, fun N c h' => cheap_one h' h⟩
    rcases h with ⟨h1, -, h3, -⟩ | ⟨-, -, h3⟩
    · rw [Bool.and_eq_true] at h1
      have := (seaB_n h1.1).le
      simp only
      omega
    · rw [h3]; simp
  · exact ⟨([], false), by simp, fun N c h' => absurd ⟨N, c, h'⟩ h⟩
theorem cheap_got {s : Se} {x : Int} {M : List Int} {V : Bool} (h : ∀ N c, CheapAns s x N c → N = M ∧ c = V) {w w' : World} {e : Ending} (hp : CheapPost s x w w' e) :
    ∃ a n cp, e = .returned (.tuple #[.slice a n cp, .bool V]) ∧ OwnSl w.heap.size w' (.slice a n cp) M ∧ Below w.heap.size w w' := by
  obtain ⟨N, c, a, n, cp, hc, he, ho, hb⟩ := hp
  obtain ⟨rfl, rfl⟩ := h N c hc
  exact ⟨a, n, cp, he, ho, hb⟩

end Go.Proofs.Ytdpcacfgbjllhaa

/- Contracts of slices.Index and slices.Contains at []int, and of the program's isShut. Written by wip/mkimse2.py. -/
namespace Go.Proofs.Ytdpcacfgbjllhaa
open Go.RowKit

set_option maxHeartbeats 1600000 in
theorem slIndex_any (v : Value) (L : List Int) (x : Int) (w : World) (h : IntsIn w v L) :
    Calls Try.prog 61 #[v, .int .i64 x] w fun e w' => ∃ r, e = .returned (.int .i64 r) ∧ L.contains x = decide (0 ≤ r) ∧ w = w' := by
  obtain ⟨ao, cap, rfl, hl, hm, hc⟩ := h
  unfold maxLen at hm
  have HC := hide hc
  clear hc
  go_enter Try.func61, Try.ntmps61
  go_wp2
  go_loopg [8] L.length (fun g i wr => w = wr ∧ ∃ k : Nat, k ≤ L.length ∧ g = L.length - k ∧ i = .int .i64 k ∧ Hid (∀ r, r < k → L.getD r 0 ≠ x))
  case atStart => exact ⟨rfl, 0, Nat.zero_le _, rfl, rfl, fun r hr => by omega⟩
  case round =>
    obtain ⟨rfl, k, hk, rfl, rfl, HN⟩ := hrel
    by_cases hkn : k < L.length
    · obtain ⟨b, o, rfl, hcell⟩ := unhide HC k hkn
      have hki : (k : Int) < L.length := by omega
      by_cases hx : L.getD k 0 = x
      · have HT : Hid (L.contains x = true) := by
          show _ = _
          rw [List.contains_iff_mem, ← hx, getD_lt hkn]
          exact List.getElem_mem _
        rw [hx] at hcell
        clear HN
        go_wp2
        go_ret
        exact ⟨_, rfl, by rw [unhide HT]; simp, rfl⟩
      · have HN' : Hid (∀ r, r < k + 1 → L.getD r 0 ≠ x) := fun r hr => by
          by_cases e : r = k
          · rw [e]; exact hx
          · exact unhide HN r (by omega)
        clear HN
        generalize L.getD k 0 = y at *
        have d1 : (x == y) = false := by simp; omega
        go_wp2
        go_roundg (L.length - (k + 1))
        case measure => omega
        case rel => exact ⟨rfl, k + 1, by omega, rfl, by go_num, HN'⟩
    · have HF : Hid (L.contains x = false) := by
        show _ = _
        rw [Bool.eq_false_iff]
        intro hc
        rw [List.contains_iff_mem] at hc
        obtain ⟨i, hi, e⟩ := List.mem_iff_getElem.1 hc
        exact unhide HN i (by omega) (by rw [getD_lt hi]; exact e)
      have hki : ¬ (k : Int) < L.length := by omega
      clear HN
      go_wp2
      go_ret
      refine ⟨_, rfl, ?_, rfl⟩
      have h := unhide HF
      rw [Bool.eq_false_iff, ne_eq, List.contains_iff_mem] at h
      first | exact ⟨fun h' => absurd h' h, fun h' => by omega⟩ | (rw [unhide HF]; simp)

theorem slContains_any (v : Value) (L : List Int) (x : Int) (w : World) (h : IntsIn w v L) :
    Calls Try.prog 42 #[v, .int .i64 x] w fun e w' => e = .returned (.bool (L.contains x)) ∧ w = w' := by
  have HI := hide (slIndex_any v L x w h)
  clear h
  go_enter Try.func42, Try.ntmps42
  go_wp2_with fail
  refine (unhide HI).mono ?_
  rintro e w' ⟨r, rfl, hr, rfl⟩
  have HR := hide hr
  clear hr HI
  go_wp2
  go_ret
  exact ⟨ret_bool (unhide HR).symm, rfl⟩

set_option maxRecDepth 10000 in
set_option maxHeartbeats 8000000 in
theorem isShut_any (s : Se) (p step : Int) (dv : Value) (fao : Option Addr) (fn fc : Nat) (w : World) (hn : SeaN s) (hF : RClosed w (.slice fao fn fc) s.F) (hp0 : 0 ≤ p) (hp1 : p < s.D.length) :
    Calls Try.prog 45 #[vSea s.wd s.hg dv (.slice fao fn fc), .int .i64 p, .int .i64 step] w fun e w' => e = .returned (.bool (shutB s p step)) ∧ Below w.heap.size w w' := by
  have A := Below.alloc1 w (.cells #[.int .i64 s.wd, .int .i64 s.hg, dv, .slice fao fn fc] 27)
  have O := ownV_alloc w #[.int .i64 s.wd, .int .i64 s.hg, dv, .slice fao fn fc] 27
  have hle := hn.le
  have hw0 := hn.w0
  have hw1 := hn.w1
  have hfl := hn.shut
  obtain ⟨a1, a2, a3, a4⟩ := mod_bd hp0 hw0
  obtain ⟨fao', fc', eF, hfc1, hfm, hfc⟩ := hF
  simp only [Value.slice.injEq] at eF
  obtain ⟨rfl, rfl, rfl⟩ := eF
  have HFC := hide hfc
  have HW := hide A
  have HO := hide O
  clear A O hfc hn
  unfold vSea shutB
  obtain ⟨wd, hg, D, F⟩ := s
  dsimp only at *
  have t1 : Int.tmod p wd = p % wd := Int.tmod_eq_emod_of_nonneg hp0
  have t3 : Int.tdiv p wd = p / wd := Int.tdiv_eq_ediv_of_nonneg hp0
  have hwz : (wd == 0) = false := by simp; omega
  have hwn : wd ≠ 0 := by omega
  generalize p % wd = x at *
  generalize p / wd = y at *
  have u1 : IntKind.i64.wrap x = x := by rw [IntKind.wrap_i64]; omega
  have u3 : IntKind.i64.wrap y = y := by rw [IntKind.wrap_i64]; omega
  have hflI : (F.length : Int) ≤ 10 := by omega
  go_enter Try.func45, Try.ntmps45
  go_wp2
  go_quiet (fail)
  obtain ⟨W0, eW⟩ : ∃ z, z = (w.alloc (.cells #[.int .i64 wd, .int .i64 hg, dv, .slice fao F.length fc] 27)).drewN nq := ⟨_, rfl⟩
  replace HW := hide (below_drewN (unhide HW) nq)
  replace HO := hide (OwnV.step (unhide HO) (below_drewN (Below.refl _ _) nq))
  rw [← eW] at HW HO ⊢
  clear eW
  have b3 := (unhide HO).cell (i := 3) rfl
  go_wp2
  clear b3
  go_loopg [22] F.length (fun g i wr => Below W0.heap.size W0 wr ∧ ∃ k : Nat, k ≤ F.length ∧ g = F.length - k ∧ i = .int .i64 k ∧ Hid (∀ r, r < k → shut1 x y step (F.getD r default) = false))
  case atStart => exact ⟨Below.refl _ _, 0, Nat.zero_le _, rfl, rfl, fun r hr => by omega⟩
  case round =>
    obtain ⟨hWq, k, hk, rfl, rfl, HFF⟩ := hrel
    have hA := Below.step (unhide HW) hWq
    by_cases hkn : k < F.length
    · obtain ⟨b, o, x0, x1, x2, x3, x4, x5, rfl, hc0, hc1, hc2, hc3, hc4, hc5, EX⟩ := recClosedAt (unhide HFC) hkn
      have g0 := wcell3 hc0 hA
      have g1 := wcell3 hc1 hA
      have g2 := wcell3 hc2 hA
      have g3 := wcell3 hc3 hA
      have g4 := wcell3 hc4 hA
      have g5 := wcell3 hc5 hA
      have HWA := hide (Below.step hWq (Below.alloc1 wr (.cells #[.int .i64 x0, .int .i64 x1, .int .i64 x2, .int .i64 x3, .int .i64 x4, .int .i64 x5] 87)))
      have hkF : (k : Int) < F.length := by omega
      have HYES : Hid (shut1 x y step (x0, x1, x2, x3, x4, x5) = true → F.any (shut1 x y step) = true) := fun h => any_t (d := default) hkn (by rw [unhide EX]; exact h)
      have HNO : Hid (shut1 x y step (x0, x1, x2, x3, x4, x5) = false → ∀ r, r < k + 1 → shut1 x y step (F.getD r default) = false) := fun h r hr => by
        by_cases e : r = k
        · rw [e, unhide EX]; exact h
        · exact (unhide HFF) r (by omega)
      clear hc0 hc1 hc2 hc3 hc4 hc5 hWq hA EX HFF
      unfold shut1 at HYES HNO
      dsimp only at HYES HNO
      cases h1 : inB x x0 x2
      · have HFF := hide (unhide HNO (by rw [h1]; rfl))
        clear HYES HNO
        go_wp2_with (go_at_call 36; refine (within_any _ _ _ _).mono ?_; rintro e w' ⟨rfl, h9⟩; have h8 := h9.symm; subst h8; clear h9)
        go_roundg (F.length - (k + 1))
        case measure => omega
        case rel => exact ⟨unhide HWA, k + 1, by omega, rfl, by go_num, HFF⟩
      cases h2 : inB y x1 x3
      · have HFF := hide (unhide HNO (by rw [h1, h2]; rfl))
        clear HYES HNO
        go_wp2_with (go_at_call 36; refine (within_any _ _ _ _).mono ?_; rintro e w' ⟨rfl, h9⟩; have h8 := h9.symm; subst h8; clear h9)
        go_roundg (F.length - (k + 1))
        case measure => omega
        case rel => exact ⟨unhide HWA, k + 1, by omega, rfl, by go_num, HFF⟩
      cases h3 : inB step x4 x5
      · have HFF := hide (unhide HNO (by rw [h1, h2, h3]; rfl))
        clear HYES HNO
        go_wp2_with (go_at_call 36; refine (within_any _ _ _ _).mono ?_; rintro e w' ⟨rfl, h9⟩; have h8 := h9.symm; subst h8; clear h9)
        go_roundg (F.length - (k + 1))
        case measure => omega
        case rel => exact ⟨unhide HWA, k + 1, by omega, rfl, by go_num, HFF⟩
      · have HT := hide (unhide HYES (by rw [h1, h2, h3]; rfl))
        clear HYES HNO
        go_wp2_with (go_at_call 36; refine (within_any _ _ _ _).mono ?_; rintro e w' ⟨rfl, h9⟩; have h8 := h9.symm; subst h8; clear h9)
        go_ret
        exact ⟨ret_bool (unhide HT).symm, Below.step (unhide HW) (unhide HWA)⟩
    · have HAF := hide (any_f (xs := F) (d := default) (p := shut1 x y step) (fun r hr => unhide HFF r (by omega)))
      have hkF : ¬ (k : Int) < F.length := by omega
      have HA := hide hA
      clear HFF hA hWq
      go_wp2
      go_ret
      exact ⟨ret_bool (unhide HAF).symm, unhide HA⟩

end Go.Proofs.Ytdpcacfgbjllhaa

/- Contracts of the program's bearsOn and cameBy. -/
namespace Go.Proofs.Ytdpcacfgbjllhaa
open Go.RowKit

def mAt (M : List Int) (p : Int) : Int := M.getD p.toNat 0
def bear1 (s : Se) (M : List Int) (p : Nat) (b : Int) : Bool := !sailB s b || (decide (0 ≤ mAt M b) && decide (mAt M b - M.getD p 0 ≤ costAt s b))
def bearN (s : Se) (M : List Int) (p : Nat) : Bool := (nbs s.wd s.D.length (p : Int)).all (bear1 s M p)
def came1 (s : Se) (M : List Int) (p : Nat) (a : Int) : Bool := decide (0 ≤ mAt M a) && decide (M.getD p 0 - mAt M a = s.D.getD p 0)
def cameOf (s : Se) (M : List Int) (p : Nat) : Int := ((nbs s.wd s.D.length (p : Int)).find? (came1 s M p)).getD (-1)

theorem nbs_at {s : Se} (hn : SeaN s) {p : Nat} (hp : p < s.D.length) {L : List Int} (e : L = nbs s.wd s.D.length (p : Int)) {i : Nat} (hi : i < L.length) : ∃ b : Nat, L.getD i 0 = (b : Int) ∧ b < s.D.length := by
  have hm : L.getD i 0 ∈ nbs s.wd s.D.length (p : Int) := by rw [← e, getD_lt hi]; exact List.getElem_mem _
  have h := (nbs_mem hn (by omega) (by omega)).1 hm
  exact ⟨(L.getD i 0).toNat, by omega, by omega⟩
theorem find_at {α : Type} {f : α → Bool} {L : List α} {d : α} {k : Nat} (hk : k < L.length) (h : ∀ r, r < k → f (L.getD r d) = false) (h' : f (L.getD k d) = true) : L.find? f = some (L.getD k d) := by
  induction L generalizing k with
  | nil => simp at hk
  | cons a t ih =>
    cases k with
    | zero =>
      have h2 : f a = true := by simpa [List.getD] using h'
      simp [h2, List.getD]
    | succ k =>
      have h0 : f a = false := by simpa [List.getD] using h 0 (by omega)
      rw [List.find?_cons, h0]
      have := ih (k := k) (by simpa using hk) (fun r hr => by simpa [List.getD] using h (r + 1) (by omega)) (by simpa [List.getD] using h')
      simpa [List.getD] using this
theorem find_no {α : Type} {f : α → Bool} {L : List α} {d : α} (h : ∀ r, r < L.length → f (L.getD r d) = false) : L.find? f = none := by
  rw [List.find?_eq_none]
  intro x hx
  obtain ⟨i, hi, rfl⟩ := List.mem_iff_getElem.1 hx
  have := h i hi
  rw [getD_lt hi] at this
  simp [this]

set_option maxRecDepth 10000 in
set_option maxHeartbeats 16000000 in
theorem bearsOn_any (s : Se) (dao : Option Addr) (dn dc : Nat) (fv : Value) (v : Value) (M : List Int) (p : Nat) (w : World) (hn : SeaN s) (hD : IntsIn w (.slice dao dn dc) s.D) (hM : IntsIn w v M) (hlen : M.length = s.D.length) (hp : p < s.D.length) (hp0 : 0 ≤ M.getD p 0)
    (hB : ∀ i, i < M.length → -9223372036854775808 ≤ M.getD i 0 ∧ M.getD i 0 ≤ 9223372036854775807) :
    Calls Try.prog 39 #[vSea s.wd s.hg (.slice dao dn dc) fv, v, .int .i64 (p : Int)] w fun e w' => e = .returned (.bool (bearN s M p)) ∧ Below w.heap.size w w' := by
  have A := Below.alloc1 w (.cells #[.int .i64 s.wd, .int .i64 s.hg, .slice dao dn dc, fv] 27)
  have O := ownV_alloc w #[.int .i64 s.wd, .int .i64 s.hg, .slice dao dn dc, fv] 27
  have HNB := hide (neighbours_any s (p : Int) dao dn dc fv _ hn (hD.below A) (by omega) (by omega))
  have HD := hide hD
  obtain ⟨dao', dc', eD, hdl, hdm, hdc⟩ := hD
  obtain ⟨mao, mc, rfl, hml, hmm, hmc⟩ := hM
  simp only [Value.slice.injEq] at eD
  obtain ⟨rfl, rfl, rfl⟩ := eD
  unfold maxLen at hmm
  have HDC := hide hdc
  have HMC := hide hmc
  have HMB := hide hB
  have HW := hide A
  have HO := hide O
  have HN := hide hn
  have hle := hn.le
  obtain ⟨bm, om, rfl, hcm⟩ := hmc p (by omega)
  obtain ⟨bd, od, rfl, -⟩ := hdc p hp
  have eMp := (A.cell (lt_of_cell hcm)).trans hcm
  obtain ⟨mp, emp⟩ : ∃ c, M.getD p 0 = c := ⟨_, rfl⟩
  have hpb := (hB p (by omega)).2
  rw [emp] at eMp hp0 hpb
  have EMP := hide emp
  clear A O hdc hmc hB hn hcm emp
  obtain ⟨L, eL⟩ : ∃ L, L = nbs s.wd s.D.length (p : Int) := ⟨_, rfl⟩
  rw [← eL] at HNB
  obtain ⟨r, er⟩ : ∃ r, r = bearN s M p := ⟨_, rfl⟩
  rw [← er]
  have ER : Hid (r = L.all (bear1 s M p)) := by show _ = _; rw [er, eL]; rfl
  have EL := hide eL
  clear er eL
  have hmI : (M.length : Int) ≤ 144 := by omega
  have hpM : (p : Int) < M.length := by omega
  unfold vSea at HNB ⊢
  go_enter Try.func39, Try.ntmps39
  go_wp2_with fail
  refine (unhide HNB).mono ?_
  rintro e w1 ⟨a, n', cp, rfl, ho, hb⟩
  replace HW := hide (Below.step (unhide HW) hb)
  replace HO := hide (OwnV.step (unhide HO) hb)
  have zMp := (hb.cell (lt_of_cell eMp)).trans eMp
  obtain ⟨a', cp', e', hl1, hl2, hl3⟩ := ho.intsIn
  simp only [Value.slice.injEq] at e'
  obtain ⟨rfl, rfl, rfl⟩ := e'
  unfold maxLen at hl2
  have HLC := hide hl3
  clear hb HNB ho hl3 eMp
  go_wp2
  go_loopg [13] L.length (fun g i wr => Below w1.heap.size w1 wr ∧ ∃ k : Nat, k ≤ L.length ∧ g = L.length - k ∧ i = .int .i64 k ∧ Hid (∀ r, r < k → bear1 s M p (L.getD r 0) = true))
  case atStart => exact ⟨Below.refl _ _, 0, Nat.zero_le _, rfl, rfl, fun r hr => by omega⟩
  case round =>
    obtain ⟨hWq, k, hk, rfl, rfl, HS⟩ := hrel
    have hA := Below.step (unhide HW) hWq
    by_cases hkn : k < L.length
    case neg =>
      have HY : Hid (r = true) := by show _ = _; rw [unhide ER, all_true (d := 0) (fun i hi => unhide HS i (by omega))]
      have hki : ¬ (k : Int) < L.length := by omega
      have HA := hide hA
      clear HS hA hWq
      go_wp2
      go_ret
      exact ⟨ret_bool (unhide HY).symm, unhide HA⟩
    obtain ⟨q, eq, hq⟩ := nbs_at (unhide HN) hp (unhide EL) hkn
    obtain ⟨bl, ol, rfl, hcl⟩ := unhide HLC k hkn
    have eL := (hWq.cell (lt_of_cell hcl)).trans hcl
    rw [eq] at eL
    have hki : (k : Int) < L.length := by omega
    have hO := OwnV.step (unhide HO) hWq
    have b0 := hO.cell (i := 0) rfl
    have b1 := hO.cell (i := 1) rfl
    have b2 := hO.cell (i := 2) rfl
    have b3 := hO.cell (i := 3) rfl
    obtain ⟨bm', om', em, hcm⟩ := unhide HMC q (by omega)
    simp only [Option.some.injEq, Addr.mk.injEq, and_true] at em
    obtain ⟨rfl, rfl⟩ := em
    obtain ⟨bd', od', ed, hcd⟩ := unhide HDC q hq
    simp only [Option.some.injEq, Addr.mk.injEq, and_true] at ed
    obtain ⟨rfl, rfl⟩ := ed
    have uM := wcell3 hcm hA
    have uD := wcell3 hcd hA
    have uP := (hWq.cell (lt_of_cell zMp)).trans zMp
    have hmb2 := unhide HMB q (by omega)
    have hdb2 := (unhide HN).cost q hq
    have S1 := hide (isSailed_any s (q : Int) (some ⟨bd, od, none⟩) s.D.length dc fv wr (unhide HN) ((unhide HD).below hA))
    unfold vSea at S1
    have EBE : Hid (bear1 s M p (L.getD k 0) = (!sailB s (q : Int) || (decide (0 ≤ M.getD q 0) && decide (M.getD q 0 - mp ≤ s.D.getD q 0)))) := by
      show _ = _
      unfold bear1 mAt costAt
      rw [eq, unhide EMP]
      rfl
    have HNO : Hid (bear1 s M p (L.getD k 0) = false → r = false) := fun h => by rw [unhide ER, all_false (d := 0) hkn h]
    have HYES : Hid (bear1 s M p (L.getD k 0) = true → ∀ r, r < k + 1 → bear1 s M p (L.getD r 0) = true) := fun h r hr => by
      by_cases e : r = k
      · rw [e]; exact h
      · exact unhide HS r (by omega)
    rw [unhide EBE] at HNO HYES
    have hqM : (q : Int) < M.length := by omega
    have hqD : (q : Int) < s.D.length := by omega
    have HWq := hide hWq
    have HA := hide hA
    generalize M.getD q 0 = mq at *
    generalize s.D.getD q 0 = dq at *
    obtain ⟨hmb20, hmb21⟩ := hmb2
    obtain ⟨hdb20, hdb21⟩ := hdb2
    clear hcl hcm hcd hWq hA hO eq HS EBE
    cases h3 : sailB s (q : Int) with
    | false =>
      rw [h3] at S1
      have HS' := hide (unhide HYES (by rw [h3]; rfl))
      clear HNO HYES h3
      go_wp2_with fail
      refine (unhide S1).mono ?_
      rintro e w2 ⟨rfl, hb⟩
      replace HWq := hide (Below.step (unhide HWq) hb)
      clear hb S1
      go_wp2
      go_roundg (L.length - (k + 1))
      case measure => omega
      case rel => exact ⟨unhide HWq, k + 1, by omega, rfl, by go_num, HS'⟩
    | true =>
      rw [h3] at S1 HNO HYES
      clear h3
      go_wp2_with fail
      refine (unhide S1).mono ?_
      rintro e w2 ⟨rfl, hb⟩
      have g2 := (hb.cell (lt_of_cell b2)).trans b2
      have gM := (hb.cell (lt_of_cell uM)).trans uM
      have gD := (hb.cell (lt_of_cell uD)).trans uD
      have gP := (hb.cell (lt_of_cell uP)).trans uP
      replace HWq := hide (Below.step (unhide HWq) hb)
      replace HA := hide (Below.step (unhide HA) hb)
      clear hb S1 b0 b1 b2 b3 uM uD uP eL zMp
      by_cases e2 : mq < 0
      · have HR := hide (unhide HNO (by rw [decide_eq_false (show ¬ 0 ≤ mq by omega)]; rfl))
        have f2 : decide (mq < 0) = true := decide_eq_true e2
        clear HNO HYES
        go_wp2
        go_quiet (fail)
        go_wp2
        go_ret
        exact ⟨ret_bool (unhide HR).symm, below_drewN (unhide HA) _⟩
      have f2 : decide (mq < 0) = false := decide_eq_false e2
      have q2 : IntKind.i64.wrap (mq - mp) = mq - mp := by rw [IntKind.wrap_i64]; omega
      by_cases e3 : dq < mq - mp
      · have HR := hide (unhide HNO (by rw [decide_eq_false (show ¬ mq - mp ≤ dq by omega)]; simp))
        have f3 : decide (dq < mq - mp) = true := decide_eq_true e3
        clear HNO HYES
        go_wp2
        go_quiet (fail)
        go_wp2
        go_ret
        exact ⟨ret_bool (unhide HR).symm, below_drewN (unhide HA) _⟩
      have f3 : decide (dq < mq - mp) = false := decide_eq_false e3
      have HS' := hide (unhide HYES (by rw [decide_eq_true (show 0 ≤ mq by omega), decide_eq_true (show mq - mp ≤ dq by omega)]; rfl))
      clear HNO HYES
      go_wp2
      go_quiet (fail)
      go_wp2
      go_roundg (L.length - (k + 1))
      case measure => omega
      case rel => exact ⟨below_drewN (unhide HWq) _, k + 1, by omega, rfl, by go_num, HS'⟩

set_option maxRecDepth 10000 in
set_option maxHeartbeats 16000000 in
theorem cameBy_any (s : Se) (dao : Option Addr) (dn dc : Nat) (fv : Value) (v : Value) (M : List Int) (p : Nat) (w : World) (hn : SeaN s) (hD : IntsIn w (.slice dao dn dc) s.D) (hM : IntsIn w v M) (hlen : M.length = s.D.length) (hp : p < s.D.length) (hp0 : 0 ≤ M.getD p 0)
    (hB : ∀ i, i < M.length → -9223372036854775808 ≤ M.getD i 0 ∧ M.getD i 0 ≤ 9223372036854775807) :
    Calls Try.prog 40 #[vSea s.wd s.hg (.slice dao dn dc) fv, v, .int .i64 (p : Int)] w fun e w' => e = .returned (.int .i64 (cameOf s M p)) ∧ Below w.heap.size w w' := by
  have A := Below.alloc1 w (.cells #[.int .i64 s.wd, .int .i64 s.hg, .slice dao dn dc, fv] 27)
  have O := ownV_alloc w #[.int .i64 s.wd, .int .i64 s.hg, .slice dao dn dc, fv] 27
  have HNB := hide (neighbours_any s (p : Int) dao dn dc fv _ hn (hD.below A) (by omega) (by omega))
  obtain ⟨dao', dc', eD, hdl, hdm, hdc⟩ := hD
  obtain ⟨mao, mc, rfl, hml, hmm, hmc⟩ := hM
  simp only [Value.slice.injEq] at eD
  obtain ⟨rfl, rfl, rfl⟩ := eD
  unfold maxLen at hmm
  have HMC := hide hmc
  have HMB := hide hB
  have HW := hide A
  have HO := hide O
  have HN := hide hn
  have hle := hn.le
  obtain ⟨bm, om, rfl, hcm⟩ := hmc p (by omega)
  obtain ⟨bd, od, rfl, hcd⟩ := hdc p hp
  have eMp := (A.cell (lt_of_cell hcm)).trans hcm
  have eDp := (A.cell (lt_of_cell hcd)).trans hcd
  obtain ⟨mp, emp⟩ : ∃ c, M.getD p 0 = c := ⟨_, rfl⟩
  obtain ⟨dp, edp⟩ : ∃ c, s.D.getD p 0 = c := ⟨_, rfl⟩
  have hpb := (hB p (by omega)).2
  rw [emp] at eMp hp0 hpb
  rw [edp] at eDp
  have EMP := hide emp
  have EDP := hide edp
  clear A O hdc hmc hB hn hcm hcd emp edp
  obtain ⟨L, eL⟩ : ∃ L, L = nbs s.wd s.D.length (p : Int) := ⟨_, rfl⟩
  rw [← eL] at HNB
  obtain ⟨r, er⟩ : ∃ r, r = cameOf s M p := ⟨_, rfl⟩
  rw [← er]
  have ER : Hid (r = (L.find? (came1 s M p)).getD (-1)) := by show _ = _; rw [er, eL]; rfl
  have EL := hide eL
  clear er eL
  have hmI : (M.length : Int) ≤ 144 := by omega
  have hpM : (p : Int) < M.length := by omega
  have hpD : (p : Int) < s.D.length := by omega
  unfold vSea at HNB ⊢
  go_enter Try.func40, Try.ntmps40
  go_wp2_with fail
  refine (unhide HNB).mono ?_
  rintro e w1 ⟨a, n', cp, rfl, ho, hb⟩
  replace HW := hide (Below.step (unhide HW) hb)
  replace HO := hide (OwnV.step (unhide HO) hb)
  have zMp := (hb.cell (lt_of_cell eMp)).trans eMp
  have zDp := (hb.cell (lt_of_cell eDp)).trans eDp
  obtain ⟨a', cp', e', hl1, hl2, hl3⟩ := ho.intsIn
  simp only [Value.slice.injEq] at e'
  obtain ⟨rfl, rfl, rfl⟩ := e'
  unfold maxLen at hl2
  have HLC := hide hl3
  clear hb HNB ho hl3 eMp eDp
  go_wp2
  go_loopg [13] L.length (fun g i wr => Below w1.heap.size w1 wr ∧ ∃ k : Nat, k ≤ L.length ∧ g = L.length - k ∧ i = .int .i64 k ∧ Hid (∀ r, r < k → came1 s M p (L.getD r 0) = false))
  case atStart => exact ⟨Below.refl _ _, 0, Nat.zero_le _, rfl, rfl, fun r hr => by omega⟩
  case round =>
    obtain ⟨hWq, k, hk, rfl, rfl, HS⟩ := hrel
    have hA := Below.step (unhide HW) hWq
    by_cases hkn : k < L.length
    case neg =>
      have HY : Hid (r = -1) := by show _ = _; rw [unhide ER, find_no (d := 0) (fun i hi => unhide HS i (by omega))]; rfl
      have hki : ¬ (k : Int) < L.length := by omega
      have HA := hide hA
      clear HS hA hWq
      go_wp2
      go_ret
      exact ⟨by rw [unhide HY]; rfl, unhide HA⟩
    obtain ⟨q, eq, hq⟩ := nbs_at (unhide HN) hp (unhide EL) hkn
    obtain ⟨bl, ol, rfl, hcl⟩ := unhide HLC k hkn
    have eL := (hWq.cell (lt_of_cell hcl)).trans hcl
    rw [eq] at eL
    have hki : (k : Int) < L.length := by omega
    have hO := OwnV.step (unhide HO) hWq
    have b2 := hO.cell (i := 2) rfl
    obtain ⟨bm', om', em, hcm⟩ := unhide HMC q (by omega)
    simp only [Option.some.injEq, Addr.mk.injEq, and_true] at em
    obtain ⟨rfl, rfl⟩ := em
    have uM := wcell3 hcm hA
    have uP := (hWq.cell (lt_of_cell zMp)).trans zMp
    have uD := (hWq.cell (lt_of_cell zDp)).trans zDp
    have hmb2 := unhide HMB q (by omega)
    have EBE : Hid (came1 s M p (L.getD k 0) = (decide (0 ≤ M.getD q 0) && decide (mp - M.getD q 0 = dp))) := by
      show _ = _
      unfold came1 mAt
      rw [eq, unhide EMP, unhide EDP]
      rfl
    have HYES : Hid (came1 s M p (L.getD k 0) = true → r = (q : Int)) := fun h => by rw [unhide ER, find_at (d := 0) hkn (unhide HS) h, eq]; rfl
    have HNO : Hid (came1 s M p (L.getD k 0) = false → ∀ r, r < k + 1 → came1 s M p (L.getD r 0) = false) := fun h r hr => by
      by_cases e : r = k
      · rw [e]; exact h
      · exact unhide HS r (by omega)
    rw [unhide EBE] at HNO HYES
    have hqM : (q : Int) < M.length := by omega
    have HWq := hide hWq
    have HA := hide hA
    generalize M.getD q 0 = mq at *
    obtain ⟨hmb20, hmb21⟩ := hmb2
    clear hcl hcm hWq hA hO eq HS EBE
    by_cases e2 : 0 ≤ mq
    case neg =>
      have HS' := hide (unhide HNO (by rw [decide_eq_false e2]; rfl))
      have f2 : decide (0 ≤ mq) = false := decide_eq_false e2
      clear HNO HYES
      go_wp2
      go_quiet (fail)
      go_wp2
      go_roundg (L.length - (k + 1))
      case measure => omega
      case rel => exact ⟨below_drewN (unhide HWq) _, k + 1, by omega, rfl, by go_num, HS'⟩
    have f2 : decide (0 ≤ mq) = true := decide_eq_true e2
    have q2 : IntKind.i64.wrap (mp - mq) = mp - mq := by rw [IntKind.wrap_i64]; omega
    by_cases e3 : mp - mq = dp
    · have HR := hide (unhide HYES (by rw [f2, decide_eq_true e3]; rfl))
      have f3 : (mp - mq == dp) = true := by simp; exact e3
      clear HNO HYES e3
      go_wp2
      go_quiet (fail)
      go_wp2
      go_ret
      exact ⟨by rw [unhide HR]; rfl, below_drewN (unhide HA) _⟩
    · have HS' := hide (unhide HNO (by rw [decide_eq_false e3]; simp))
      have f3 : (mp - mq == dp) = false := by simp; exact e3
      clear HNO HYES
      go_wp2
      go_quiet (fail)
      go_wp2
      go_roundg (L.length - (k + 1))
      case measure => omega
      case rel => exact ⟨below_drewN (unhide HWq) _, k + 1, by omega, rfl, by go_num, HS'⟩

end Go.Proofs.Ytdpcacfgbjllhaa

/- The program's Proves in numbers. No statement about the program stands here. -/
namespace Go.Proofs.Ytdpcacfgbjllhaa
open Go.RowKit

def placeI (s : Se) (x : Int) (M : List Int) (p : Nat) : Bool := !decide (M.getD p 0 < -1) && (decide (M.getD p 0 = -1) || (sailB s (p : Int) && (bearN s M p && (decide ((p : Int) = x) || !decide (cameOf s M p = -1)))))
theorem sailB_at {s : Se} {p : Nat} (hp : p < s.D.length) : sailB s (p : Int) = !decide (s.D.getD p 0 = 0) := by
  unfold sailB onB costAt
  rw [inB_mk (by omega) (by omega)]
  rfl
theorem bearN_eq {s : Se} (hn : SeaN s) {M : List Int} {p : Nat} (hp : p < s.D.length) : bearN s M p = (List.range s.D.length).all (bearB s M p) := by
  rw [Bool.eq_iff_iff]
  unfold bearN
  rw [List.all_eq_true, List.all_eq_true]
  constructor
  · intro h q hq
    rw [List.mem_range] at hq
    unfold bearB
    cases hx : nextB s.wd (p : Int) (q : Int) with
    | false => simp
    | true =>
      have := h (q : Int) ((nbs_mem hn (by omega) (by omega)).2 ⟨by omega, by omega, hx⟩)
      unfold bear1 mAt costAt at this
      rw [sailB_at hq] at this
      simp only [Int.toNat_natCast] at this
      by_cases hz : s.D.getD q 0 = 0
      · rw [decide_eq_true hz]; rfl
      · simp only [hz, decide_false, Bool.not_false, Bool.not_true, Bool.false_or, Bool.and_eq_true, decide_eq_true_eq] at this ⊢
        omega
  · intro h b hb
    obtain ⟨h0, h1, hx⟩ := (nbs_mem hn (by omega) (by omega)).1 hb
    obtain ⟨q, rfl⟩ : ∃ q : Nat, b = (q : Int) := ⟨b.toNat, by omega⟩
    have := h q (by rw [List.mem_range]; omega)
    unfold bearB at this
    rw [hx] at this
    unfold bear1 mAt costAt
    rw [sailB_at (show q < s.D.length by omega)]
    simp only [Int.toNat_natCast]
    by_cases hz : s.D.getD q 0 = 0
    · rw [decide_eq_true hz]; rfl
    · simp only [hz, decide_false, Bool.not_false, Bool.not_true, Bool.false_or, Bool.and_eq_true, decide_eq_true_eq] at this ⊢
      omega
theorem cameOf_some {s : Se} (hn : SeaN s) {M : List Int} {p : Nat} (hp : p < s.D.length) (h : cameOf s M p ≠ -1) : ∃ q : Nat, q < s.D.length ∧ nextB s.wd (p : Int) (q : Int) = true ∧ 0 ≤ M.getD q 0 ∧ M.getD p 0 - M.getD q 0 = s.D.getD p 0 ∧ cameOf s M p = (q : Int) := by
  unfold cameOf at h ⊢
  cases hf : (nbs s.wd s.D.length (p : Int)).find? (came1 s M p) with
  | none => rw [hf] at h; exact absurd rfl h
  | some a =>
    have h1 := List.mem_of_find?_eq_some hf
    have h2 := List.find?_some hf
    obtain ⟨h3, h4, hx⟩ := (nbs_mem hn (by omega) (by omega)).1 h1
    obtain ⟨q, rfl⟩ : ∃ q : Nat, a = (q : Int) := ⟨a.toNat, by omega⟩
    unfold came1 mAt at h2
    simp only [Int.toNat_natCast, Bool.and_eq_true, decide_eq_true_eq] at h2
    exact ⟨q, by omega, hx, h2.1, h2.2, rfl⟩
theorem cameOf_has {s : Se} (hn : SeaN s) {M : List Int} {p q : Nat} (hp : p < s.D.length) (hq : q < s.D.length) (hx : nextB s.wd (p : Int) (q : Int) = true) (h0 : 0 ≤ M.getD q 0) (h1 : M.getD p 0 - M.getD q 0 = s.D.getD p 0) : cameOf s M p ≠ -1 := by
  unfold cameOf
  cases hf : (nbs s.wd s.D.length (p : Int)).find? (came1 s M p) with
  | none =>
    rw [List.find?_eq_none] at hf
    have := hf (q : Int) ((nbs_mem hn (by omega) (by omega)).2 ⟨by omega, by omega, hx⟩)
    unfold came1 mAt at this
    simp only [Int.toNat_natCast] at this
    rw [decide_eq_true h0, decide_eq_true h1] at this
    exact absurd rfl this
  | some a =>
    have h := (nbs_mem hn (by omega) (by omega)).1 (List.mem_of_find?_eq_some hf)
    simp only [Option.getD_some]
    omega
theorem places_eq {s : Se} (hn : SeaN s) (x : Int) (M : List Int) : ((List.range s.D.length).all (placeI s x M)) = ((List.range s.D.length).all (placeP s x M)) := by
  rw [Bool.eq_iff_iff, List.all_eq_true, List.all_eq_true]
  constructor
  · intro h p hp
    rw [List.mem_range] at hp
    have hI := h p (by rw [List.mem_range]; exact hp)
    unfold placeI at hI
    rw [sailB_at hp, bearN_eq hn hp] at hI
    simp only [Bool.and_eq_true, Bool.or_eq_true, Bool.not_eq_true', decide_eq_true_eq, decide_eq_false_iff_not] at hI
    obtain ⟨h0, h1⟩ := hI
    by_cases hm : M.getD p 0 = -1
    · exact placeP_none hm
    rcases h1 with h1 | ⟨h2, h3, h4⟩
    · exact absurd h1 hm
    refine placeP_yes (by omega) h2 (fun r hr => List.all_eq_true.1 h3 r (by rw [List.mem_range]; exact hr)) ?_
    unfold reachB
    rcases h4 with h4 | h4
    · rw [decide_eq_true h4]; rfl
    obtain ⟨q, hq, hx, hq0, hq1, -⟩ := cameOf_some hn hp h4
    have hqz : s.D.getD q 0 ≠ 0 := by
      intro hz
      have hIq := h q (by rw [List.mem_range]; exact hq)
      unfold placeI at hIq
      rw [sailB_at hq] at hIq
      simp only [Bool.and_eq_true, Bool.or_eq_true, Bool.not_eq_true', decide_eq_true_eq, decide_eq_false_iff_not] at hIq
      rcases hIq.2 with h5 | h5
      · omega
      · exact h5.1 hz
    rw [Bool.or_eq_true]
    right
    rw [List.any_eq_true]
    refine ⟨q, by rw [List.mem_range]; exact hq, ?_⟩
    unfold comeB
    rw [hx, decide_eq_false hqz, decide_eq_true (show M.getD q 0 = M.getD p 0 - s.D.getD p 0 by omega)]
    rfl
  · intro h p hp
    rw [List.mem_range] at hp
    have hP := h p (by rw [List.mem_range]; exact hp)
    unfold placeP at hP
    rw [← bearN_eq hn hp] at hP
    simp only [Bool.and_eq_true, Bool.or_eq_true, Bool.not_eq_true', decide_eq_true_eq, decide_eq_false_iff_not] at hP
    obtain ⟨h0, h1, h2⟩ := hP
    unfold placeI
    rw [sailB_at hp]
    by_cases hm : M.getD p 0 = -1
    · rw [hm]; simp
    rcases h1 with h1 | h1
    case inr => exact absurd h1 hm
    rcases h2 with h2 | ⟨h2, h3⟩
    · omega
    rw [h2, decide_eq_false (show ¬ M.getD p 0 < -1 by omega), decide_eq_false h1]
    simp only [Bool.not_false, Bool.true_and, Bool.or_eq_true, Bool.not_eq_true', decide_eq_true_eq, decide_eq_false_iff_not]
    right
    unfold reachB at h3
    rw [Bool.or_eq_true, decide_eq_true_eq, List.any_eq_true] at h3
    rcases h3 with h3 | ⟨q, hq, hc⟩
    · left; exact h3
    right
    rw [List.mem_range] at hq
    unfold comeB at hc
    simp only [Bool.and_eq_true, Bool.not_eq_true', decide_eq_true_eq, decide_eq_false_iff_not] at hc
    obtain ⟨c1, c2, c3⟩ := hc
    have hb := h2
    rw [bearN_eq hn hp] at hb
    have hbq := List.all_eq_true.1 hb q (by rw [List.mem_range]; exact hq)
    unfold bearB at hbq
    rw [c2] at hbq
    simp only [Bool.and_eq_true, Bool.or_eq_true, Bool.not_true, decide_eq_true_eq] at hbq
    have hq0 : 0 ≤ M.getD q 0 := by
      rcases hbq with h5 | h5 | h5
      · exact absurd h5 c1
      · exact absurd h5 (by simp)
      · exact h5.1
    exact cameOf_has hn hp hq c2 hq0 (by omega)
theorem provesI {s : Se} {x : Int} {M : List Int} (h0 : prov0B s x M = true) : provesB s x M = (List.range s.D.length).all (placeI s x M) := by
  unfold provesB
  rw [h0, Bool.true_and, places_eq (prov0_n h0).1]

theorem provesI_no {s : Se} {x : Int} {M : List Int} (h0 : prov0B s x M = true) {k : Nat} (hk : k < s.D.length) (h : placeI s x M k = false) : provesB s x M = false := by
  rw [provesI h0, all_false (xs := List.range s.D.length) (d := 0) (i := k) (by simpa using hk) (by simpa [List.getD, hk] using h)]
theorem provesI_all {s : Se} {x : Int} {M : List Int} (h0 : prov0B s x M = true) (h : ∀ r, r < s.D.length → placeI s x M r = true) : provesB s x M = true := by
  rw [provesI h0, all_true (xs := List.range s.D.length) (d := 0) (fun r hr => by
    have hr' : r < s.D.length := by simpa using hr
    simpa [List.getD, hr'] using h r hr')]

end Go.Proofs.Ytdpcacfgbjllhaa
