/- Laid together out of: SeJ, SeJ2, ImSeaOk, TwoR, AppK, ImSe1. -/
import Derived.Test.YtdpcacfgbjllhaaPb
import Derived.Deep.DeepCutAuto
import Derived.Deep.RegionHeld3
import Derived.Test.YtdpcacfgbjllhaaPa
import Derived.Deep.AppendLies

/- Contract of the specification's Cheapest. Written by wip/mkcheap.py. -/
namespace Go.Proofs.Ytdpcacfgbjllhaa
open Go.RowKit

/-- What Cheapest tells: one list alone (prov_one). -/
def CheapAns (s : Se) (x : Int) (M : List Int) (b : Bool) : Prop :=
  ((seaB s && onB s x) = true ∧ b = true ∧ M.length = s.D.length ∧ ((costAt s x = 0 ∧ M = List.replicate s.D.length (-1)) ∨ (costAt s x ≠ 0 ∧ provesB s x M = true))) ∨ ((seaB s && onB s x) = false ∧ b = false ∧ M = [])
def CheapPost (s : Se) (x : Int) (w w' : World) (e : Ending) : Prop := ∃ M b a n cp, CheapAns s x M b ∧ e = .returned (.tuple #[.slice a n cp, .bool b]) ∧ OwnSl w.heap.size w' (.slice a n cp) M ∧ Below w.heap.size w w'
theorem cheapPost_mk {s : Se} {x : Int} {w w' : World} {M : List Int} {b : Bool} {a : Option Addr} {n cp : Nat} (h : CheapAns s x M b) (ho : OwnSl w.heap.size w' (.slice a n cp) M) (hb : Below w.heap.size w w') : CheapPost s x w w' (.returned (.tuple #[.slice a n cp, .bool b])) := ⟨M, b, a, n, cp, h, rfl, ho, hb⟩
theorem cheap_one {s : Se} {x : Int} {M N : List Int} {b c : Bool} (h : CheapAns s x M b) (h' : CheapAns s x N c) : M = N ∧ b = c := by
  rcases h with ⟨h1, h2, h3, h4⟩ | ⟨h1, h2, h3⟩ <;> rcases h' with ⟨k1, k2, k3, k4⟩ | ⟨k1, k2, k3⟩
  · refine ⟨?_, by rw [h2, k2]⟩
    rcases h4 with ⟨a1, a2⟩ | ⟨a1, a2⟩ <;> rcases k4 with ⟨c1, c2⟩ | ⟨c1, c2⟩
    · rw [a2, c2]
    · exact absurd a1 c1
    · exact absurd c1 a1
    · obtain ⟨xi, rfl⟩ : ∃ n : Nat, x = (n : Int) := by
        rw [Bool.and_eq_true] at h1
        have := h1.2
        unfold onB at this
        exact ⟨x.toNat, by have := inB_true this; omega⟩
      exact prov_one (proves_prov a2) (proves_prov c2)
  · rw [h1] at k1; cases k1
  · rw [h1] at k1; cases k1
  · exact ⟨by rw [h3, k3], by rw [h2, k2]⟩

theorem Try.infoInt8 : (Try.prog.info? 3).map (fun i => (i.zero, i.size, i.bytes)) = some (some (.int .i64 0), 1, 8) := by kernel_rfl
theorem ints_made (n : Nat) : (madeCells #[Value.int .i64 0] n).toList = ints (List.replicate n 0) := by
  unfold madeCells ints
  apply List.ext_getElem?
  intro i
  by_cases h : i < n
  · simp [h, Nat.mod_one]
  · simp [h]
theorem ints_setS (M : List Int) (p : Nat) (v : Int) : (ints M).set p (.int .i64 v) = ints (M.set p v) := by
  unfold ints
  rw [List.map_set]
theorem ints_at {M : List Int} {p : Nat} (h : p < M.length) : (ints M)[p]? = some (.int .i64 (M.getD p 0)) := by
  rw [getD_lt h]
  simp [ints, h]
/-- The box of the sea and the row of costs. -/
structure QI (w W : World) (box : List Value) (g : Nat) (M : List Int) : Prop where
  below : Below w.heap.size w W
  ob : OwnV W w.heap.size box
  oo : OwnV W g (ints M)
  h1 : w.heap.size < g
theorem QI.step {w W W' : World} {box : List Value} {g : Nat} {M : List Int} (h : QI w W box g M) (hb : Below W.heap.size W W') : QI w W' box g M := ⟨Below.step h.below hb, h.ob.step hb, h.oo.step hb, h.h1⟩
theorem QI.put {w W : World} {box : List Value} {g : Nat} {M : List Int} (h : QI w W box g M) {p : Nat} (hp : p < M.length) (v : Int) : QI w (W.setCell ⟨g, p, none⟩ (.int .i64 v)) box g (M.set p v) :=
  ⟨h.below.setCell (p := ⟨g, p, none⟩) (Nat.le_of_lt h.h1) _, h.ob.other (a := ⟨g, p, none⟩) (by show w.heap.size ≠ g; have := h.h1; omega) _, by rw [← ints_setS]; exact h.oo.set p _ (by simpa [ints] using hp), h.h1⟩
theorem QI.own {w W : World} {box : List Value} {g : Nat} {M : List Int} (h : QI w W box g M) (hM : M.length ≤ 144) : OwnSl w.heap.size W (.slice (some ⟨g, 0, none⟩) M.length M.length) M :=
  ⟨some ⟨g, 0, none⟩, M.length, rfl, Nat.le_refl _, by unfold maxLen; omega, fun _ => ⟨g, rfl, Nat.le_of_lt h.h1, h.oo⟩⟩
def St (s : Se) (M0 M : List Int) (a : Bool) (Dn : Nat → Nat → Prop) : Prop := (a = true ∧ mu M < mu M0) ∨ (a = false ∧ M = M0 ∧ ∀ p q, p < s.D.length → q < s.D.length → Dn p q → Rest s M p q)
theorem St.grow {s : Se} {M0 M : List Int} {a : Bool} {Dn Dn' : Nat → Nat → Prop} (h : St s M0 M a Dn) (hr : ∀ p q, p < s.D.length → q < s.D.length → Dn' p q → Dn p q ∨ Rest s M p q) : St s M0 M a Dn' := by
  rcases h with h | ⟨h1, h2, h3⟩
  · exact Or.inl h
  · exact Or.inr ⟨h1, h2, fun p q hp hq hd => by
      rcases hr p q hp hq hd with h | h
      · exact h3 p q hp hq h
      · exact h⟩
theorem St.put {s : Se} {M0 M M' : List Int} {a : Bool} {Dn Dn' : Nat → Nat → Prop} (h : St s M0 M a Dn) (hl : mu M' < mu M) : St s M0 M' true Dn' := by
  rcases h with h | ⟨h1, h2, h3⟩
  · exact Or.inl ⟨rfl, by omega⟩
  · exact Or.inl ⟨rfl, by rw [← h2]; exact hl⟩
theorem rep_set {n k : Nat} (h : k < n) : ((List.replicate k (-1 : Int)) ++ List.replicate (n - k) 0).set k (-1) = List.replicate (k + 1) (-1) ++ List.replicate (n - (k + 1)) 0 := by
  rw [List.set_append, if_neg (by simp)]
  simp only [List.length_replicate, Nat.sub_self]
  rw [show n - k = (n - (k + 1)) + 1 by omega, List.replicate_succ, List.set_cons_zero, List.replicate_succ', List.append_assoc]
  rfl

set_option maxRecDepth 10000 in
set_option maxHeartbeats 32000000 in
theorem specCheapest_any (s : Se) (dao : Option Addr) (dn dc : Nat) (fao : Option Addr) (fn fc : Nat) (x : Int) (w : World) (hD : IntsIn w (.slice dao dn dc) s.D) (hF : RClosed w (.slice fao fn fc) s.F) :
    Calls Try.prog 18 #[vSea s.wd s.hg (.slice dao dn dc) (.slice fao fn fc), .int .i64 x] w fun e w' => CheapPost s x w w' e := by
  have A := Below.alloc1 w (.cells #[.int .i64 s.wd, .int .i64 s.hg, .slice dao dn dc, .slice fao fn fc] 27)
  have O := ownV_alloc w #[.int .i64 s.wd, .int .i64 s.hg, .slice dao dn dc, .slice fao fn fc] 27
  have HOK := hide (specSeaOk_any s dao dn dc fao fn fc _ (hD.below A) (hF.below A))
  obtain ⟨dao', dc', eD, hdl, hdm, hdc⟩ := hD
  simp only [Value.slice.injEq] at eD
  obtain ⟨rfl, rfl, rfl⟩ := eD
  have HDC := hide hdc
  have HW := hide A
  have HO := hide O
  clear A O hdc hF
  unfold vSea at HOK ⊢
  cases h1 : seaB s with
  | false =>
    have HC : Hid (CheapAns s x [] false) := Or.inr ⟨by rw [h1]; rfl, rfl, rfl⟩
    rw [h1] at HOK
    go_enter Try.func18, Try.ntmps18
    go_wp2_with fail
    refine (unhide HOK).mono ?_
    rintro e w1 ⟨rfl, hb⟩
    replace HW := hide (Below.step (unhide HW) hb)
    clear hb HOK
    go_wp2
    refine bodyPost_ret (v := .tuple #[.slice (some ⟨w1.heap.size, 0, none⟩) 0 0, .bool false]) (by simp [results, Try.results18, go_sem]) rfl (cheapPost_mk (unhide HC) ⟨some ⟨w1.heap.size, 0, none⟩, 0, rfl, Nat.le_refl _, Nat.zero_le _, fun h => absurd rfl h⟩ (Below.step (unhide HW) (Below.alloc1 _ _)))
  | true =>
  rw [h1] at HOK
  have hn := seaB_n h1
  have HPL := hide fun V => l7Place_any s x (.slice dao s.D.length dc) (.slice fao fn fc) V hn
  unfold vSea at HPL
  cases h2 : onB s x with
  | false =>
    have HC : Hid (CheapAns s x [] false) := Or.inr ⟨by rw [h1, h2]; rfl, rfl, rfl⟩
    rw [h2] at HPL
    go_enter Try.func18, Try.ntmps18
    go_wp2_with fail
    refine (unhide HOK).mono ?_
    rintro e w1 ⟨rfl, hb⟩
    replace HW := hide (Below.step (unhide HW) hb)
    replace HO := hide (OwnV.step (unhide HO) hb)
    have b0 := (unhide HO).cell (i := 0) rfl
    have b1 := (unhide HO).cell (i := 1) rfl
    have b2 := (unhide HO).cell (i := 2) rfl
    have b3 := (unhide HO).cell (i := 3) rfl
    clear hb HOK
    go_wp2_with fail
    refine (unhide HPL _).mono ?_
    rintro e w2 ⟨rfl, hb⟩
    replace HW := hide (Below.step (unhide HW) hb)
    clear hb
    go_wp2
    refine bodyPost_ret (v := .tuple #[.slice (some ⟨w2.heap.size, 0, none⟩) 0 0, .bool false]) (by simp [results, Try.results18, go_sem]) rfl (cheapPost_mk (unhide HC) ⟨some ⟨w2.heap.size, 0, none⟩, 0, rfl, Nat.le_refl _, Nat.zero_le _, fun h => absurd rfl h⟩ (Below.step (unhide HW) (Below.alloc1 _ _)))
  | true =>
  rw [h2] at HPL
  obtain ⟨xi, rfl, hxi⟩ : ∃ q : Nat, x = (q : Int) ∧ q < s.D.length := by
    have h3 := h2
    unfold onB at h3
    obtain ⟨a, b⟩ := inB_true h3
    exact ⟨x.toNat, by omega, by omega⟩
  obtain ⟨bd, od, rfl, hcd⟩ := unhide HDC xi hxi
  have e1 := ((unhide HW).cell (lt_of_cell hcd)).trans hcd
  have hxiI : (xi : Int) < s.D.length := by omega
  have hle := hn.le
  have hleI : (s.D.length : Int) ≤ 144 := by omega
  obtain ⟨dx, edx⟩ : ∃ c, s.D.getD xi 0 = c := ⟨_, rfl⟩
  rw [edx] at e1
  have EDX := hide edx
  have HN := hide hn
  have H1 := hide h1
  have H12 : Hid ((seaB s && onB s (xi : Int)) = true) := by show _ = _; rw [h1, h2]; rfl
  have hmk := run_make_recs (P := Try.prog) 24 3 _ 1 8 Try.underlying24 Try.infoInt8 .i64 .i64 s.D.length (by omega) (by omega)
  clear hcd edx hn h1 h2
  go_enter Try.func18, Try.ntmps18
  go_wp2_with fail
  refine (unhide HOK).mono ?_
  rintro e w1 ⟨rfl, hb⟩
  have e2 := (hb.cell (lt_of_cell e1)).trans e1
  replace HW := hide (Below.step (unhide HW) hb)
  replace HO := hide (OwnV.step (unhide HO) hb)
  have b0 := (unhide HO).cell (i := 0) rfl
  have b1 := (unhide HO).cell (i := 1) rfl
  have b2 := (unhide HO).cell (i := 2) rfl
  have b3 := (unhide HO).cell (i := 3) rfl
  clear hb HOK
  go_wp2_with fail
  refine (unhide HPL _).mono ?_
  rintro e w2 ⟨rfl, hb⟩
  have e3 := (hb.cell (lt_of_cell e2)).trans e2
  replace HW := hide (Below.step (unhide HW) hb)
  replace HO := hide (OwnV.step (unhide HO) hb)
  have f2 := (unhide HO).cell (i := 2) rfl
  clear hb HPL b0 b1 b2 b3 e1 e2
  go_upto_region 4 with (fail)
  have hgb : w.heap.size < w2.heap.size := (unhide HO).lt
  have HQ : Hid (QI w (w2.alloc (.cells (madeCells #[.int .i64 0] s.D.length) 3)) [.int .i64 s.wd, .int .i64 s.hg, .slice (some ⟨bd, od, none⟩) s.D.length dc, .slice fao fn fc] w2.heap.size (List.replicate 0 (-1) ++ List.replicate (s.D.length - 0) 0)) := ⟨Below.step (unhide HW) (Below.alloc1 _ _), (unhide HO).alloc _, by rw [show (List.replicate 0 (-1 : Int) ++ List.replicate (s.D.length - 0) 0) = List.replicate s.D.length 0 by simp, ← ints_made]; exact ownV_alloc _ _ _, hgb⟩
  have e5 := ((Below.alloc1 w2 (.cells (madeCells #[.int .i64 0] s.D.length) 3)).cell (lt_of_cell e3)).trans e3
  obtain ⟨W0, eW⟩ : ∃ z, z = w2.alloc (.cells (madeCells #[.int .i64 0] s.D.length) 3) := ⟨_, rfl⟩
  rw [← eW] at HQ e5 ⊢
  clear eW e3 f2 HO HW hmk
  generalize w2.heap.size = gh at *
  go_wp2
  go_loopg [7] s.D.length (fun g i wr => ∃ k : Nat, k ≤ s.D.length ∧ g = s.D.length - k ∧ i = .int .i64 k ∧ Hid (QI w wr [.int .i64 s.wd, .int .i64 s.hg, .slice (some ⟨bd, od, none⟩) s.D.length dc, .slice fao fn fc] gh (List.replicate k (-1) ++ List.replicate (s.D.length - k) 0)))
  case atStart => exact ⟨0, Nat.zero_le _, rfl, rfl, HQ⟩
  case round =>
    clear HQ e5
    obtain ⟨k, hk, rfl, rfl, HQ⟩ := hrel
    by_cases hkn : k < s.D.length
    case pos =>
      have hki : (k : Int) < s.D.length := by omega
      have hlen : k < (List.replicate k (-1 : Int) ++ List.replicate (s.D.length - k) 0).length := by simp; omega
      have ck := (unhide HQ).oo.cell (i := k) (ints_at hlen)
      have fz := (unhide HQ).oo.frozen
      have HQ1 := (unhide HQ).put hlen (-1)
      rw [rep_set hkn] at HQ1
      have HQ2 := hide HQ1
      clear HQ1 HQ hlen
      go_wp2
      go_roundg (s.D.length - (k + 1))
      case measure => omega
      case rel => exact ⟨k + 1, by omega, rfl, by go_num, HQ2⟩
    have hkk : k = s.D.length := by omega
    subst hkk
    have hki : ¬ (s.D.length : Int) < s.D.length := by omega
    rw [show (List.replicate s.D.length (-1 : Int) ++ List.replicate (s.D.length - s.D.length) 0) = List.replicate s.D.length (-1) by simp] at HQ
    obtain ⟨bd', od', ed, hcd⟩ := unhide HDC xi hxi
    simp only [Option.some.injEq, Addr.mk.injEq, and_true] at ed
    obtain ⟨rfl, rfl⟩ := ed
    have e6 := wcell3 hcd (unhide HQ).below
    rw [unhide EDX] at e6
    have g2 := (unhide HQ).ob.cell (i := 2) rfl
    clear hcd
    by_cases c0 : dx = 0
    · have HC : Hid (CheapAns s (xi : Int) (List.replicate s.D.length (-1)) true) := Or.inl ⟨unhide H12, rfl, by simp, Or.inl ⟨by show s.D.getD xi 0 = 0; rw [unhide EDX]; exact c0, rfl⟩⟩
      have HOW := hide ((unhide HQ).own (by simp; exact hle))
      rw [List.length_replicate] at HOW
      have d0 : (dx == 0) = true := by simp; exact c0
      subst c0
      go_wp2
      refine bodyPost_ret (v := .tuple #[.slice (some ⟨gh, 0, none⟩) s.D.length s.D.length, .bool true]) (by simp [results, Try.results18, go_sem]) rfl (cheapPost_mk (unhide HC) (unhide HOW) (unhide HQ).below)
    have d0 : (dx == 0) = false := by simp; exact c0
    have hlen : xi < (List.replicate s.D.length (-1 : Int)).length := by simpa using hxi
    have cx := (unhide HQ).oo.cell (i := xi) (ints_at hlen)
    have fz := (unhide HQ).oo.frozen
    have HQ1 := hide ((unhide HQ).put hlen 0)
    have HBF := hide (bf_start hxi (by rw [unhide EDX]; exact c0))
    have hdxn : s.D.getD xi 0 ≠ 0 := by rw [unhide EDX]; exact c0
    have HXD := hide hdxn
    clear hlen HQ c0 hdxn
    generalize (List.replicate s.D.length (-1 : Int)).set xi 0 = M1 at *
    go_wp2
    clear cx fz e6 g2
    generalize wr = w5 at *
    go_loopg [8] (mu M1 + 1) (fun g av wr2 => ∃ M a, av = .bool a ∧ g = mu M + (if a = true then 1 else 0) ∧ Hid (QI w wr2 [.int .i64 s.wd, .int .i64 s.hg, .slice (some ⟨bd, od, none⟩) s.D.length dc, .slice fao fn fc] gh M) ∧ Hid (BF s xi M) ∧ Hid (a = false → ∀ p q, p < s.D.length → q < s.D.length → Rest s M p q))
    case atStart => exact ⟨M1, true, rfl, rfl, HQ1, HBF, fun h => by cases h⟩
    case round =>
      clear HQ1 HBF
      obtain ⟨M0, a, rfl, rfl, HQ, HBF, HR⟩ := hrel
      have hlM := (unhide HBF).len
      cases a with
      | false =>
        have HC : Hid (CheapAns s (xi : Int) M0 true) := Or.inl ⟨unhide H12, rfl, hlM, Or.inr ⟨unhide HXD, (unhide HBF).proved (unhide HN) (unhide H1) hxi (unhide HXD) (unhide HR rfl)⟩⟩
        have HOW := hide ((unhide HQ).own (by rw [hlM]; exact hle))
        rw [hlM] at HOW
        clear hlM HR HBF
        go_wp2
        refine bodyPost_ret (v := .tuple #[.slice (some ⟨gh, 0, none⟩) s.D.length s.D.length, .bool true]) (by simp [results, Try.results18, go_sem]) rfl (cheapPost_mk (unhide HC) (unhide HOW) (unhide HQ).below)
      | true =>
        have HST : Hid (St s M0 M0 false (fun p _ => p < 0)) := Or.inr ⟨rfl, rfl, fun p q _ _ h => by omega⟩
        clear HR hlM
        go_wp2
        generalize wr = w6 at *
        go_loopg [8, 9] s.D.length (fun g av i wr3 => ∃ p M a, p ≤ s.D.length ∧ g = s.D.length - p ∧ i = .int .i64 (p : Nat) ∧ av = .bool a ∧ Hid (QI w wr3 [.int .i64 s.wd, .int .i64 s.hg, .slice (some ⟨bd, od, none⟩) s.D.length dc, .slice fao fn fc] gh M) ∧ Hid (BF s xi M) ∧ Hid (St s M0 M a (fun p' _ => p' < p)))
        case atStart => exact ⟨0, M0, false, Nat.zero_le _, rfl, rfl, rfl, HQ, HBF, HST⟩
        case round =>
          clear HQ HBF HST
          obtain ⟨p, M, a, hp, rfl, rfl, rfl, HQ, HBF, HST⟩ := hrel
          by_cases hpn : p < s.D.length
          case neg =>
            have hpi : ¬ (p : Int) < s.D.length := by omega
            go_wp2
            go_roundg (mu M + (if a = true then 1 else 0))
            case measure =>
              rcases unhide HST with ⟨h1, h2⟩ | ⟨h1, h2, -⟩
              · rw [h1]; simp; omega
              · rw [h1, h2]; simp
            case rel => exact ⟨M, a, rfl, rfl, HQ, HBF, fun h p' q' hp' hq' => by
              rcases unhide HST with ⟨h1, -⟩ | ⟨-, -, h3⟩
              · rw [h1] at h; cases h
              · exact h3 p' q' hp' hq' (by omega)⟩
          have hpi : (p : Int) < s.D.length := by omega
          replace HST : Hid (St s M0 M a (fun p' q' => p' < p ∨ (p' = p ∧ q' < 0))) := (unhide HST).grow (fun p' q' _ _ h => by left; omega)
          go_wp2
          generalize wr = w7 at *
          go_loopg [8, 10] s.D.length (fun g av i wr4 => ∃ q M a, q ≤ s.D.length ∧ g = s.D.length - q ∧ i = .int .i64 (q : Nat) ∧ av = .bool a ∧ Hid (QI w wr4 [.int .i64 s.wd, .int .i64 s.hg, .slice (some ⟨bd, od, none⟩) s.D.length dc, .slice fao fn fc] gh M) ∧ Hid (BF s xi M) ∧ Hid (St s M0 M a (fun p' q' => p' < p ∨ (p' = p ∧ q' < q))))
          case atStart => exact ⟨0, M, a, Nat.zero_le _, rfl, rfl, rfl, HQ, HBF, HST⟩
          case round =>
            clear HQ HBF HST M a
            obtain ⟨q, M, a, hq, rfl, rfl, rfl, HQ, HBF, HST⟩ := hrel
            obtain ⟨bd', od', ed, hcd⟩ := unhide HDC p hpn
            simp only [Option.some.injEq, Addr.mk.injEq, and_true] at ed
            obtain ⟨rfl, rfl⟩ := ed
            have eD := wcell3 hcd (unhide HQ).below
            obtain ⟨dp, edp⟩ : ∃ c, s.D.getD p 0 = c := ⟨_, rfl⟩
            have hdb := (unhide HN).cost p hpn
            rw [edp] at eD hdb
            obtain ⟨hdb0, hdb1⟩ := hdb
            have EDP := hide edp
            clear hcd edp
            have a0 := (unhide HQ).ob.cell (i := 0) rfl
            have a1 := (unhide HQ).ob.cell (i := 1) rfl
            have a2 := (unhide HQ).ob.cell (i := 2) rfl
            have a3 := (unhide HQ).ob.cell (i := 3) rfl
            by_cases hqn : q < s.D.length
            case neg =>
              have hqi : ¬ (q : Int) < s.D.length := by omega
              have HST' : Hid (St s M0 M a (fun p' _ => p' < p + 1)) := (unhide HST).grow (fun p' q' _ _ h => by left; omega)
              go_wp2
              go_roundg (s.D.length - (p + 1))
              case measure => omega
              case rel => exact ⟨p + 1, M, a, by omega, rfl, by go_num, rfl, HQ, HBF, HST'⟩
            have hqi : (q : Int) < s.D.length := by omega
            by_cases cd : dp = 0
            · have d2 : decide (0 < dp) = false := by simp; omega
              have HST' : Hid (St s M0 M a (fun p' _ => p' < p + 1)) := (unhide HST).grow (fun p' q' _ _ h => by
                by_cases e : p' = p
                · right; intro h1; rw [e, unhide EDP] at h1; omega
                · left; omega)
              subst cd
              go_wp2
              go_roundg (s.D.length - (p + 1))
              case measure => omega
              case rel => exact ⟨p + 1, M, a, by omega, rfl, by go_num, rfl, HQ, HBF, HST'⟩
            have d2 : decide (0 < dp) = true := by simp; omega
            have hdp0 : 0 < dp := by omega
            have hlM := (unhide HBF).len
            have eQ := (unhide HQ).oo.cell (i := q) (ints_at (by rw [hlM]; exact hqn))
            have eP := (unhide HQ).oo.cell (i := p) (ints_at (by rw [hlM]; exact hpn))
            obtain ⟨mq, emq⟩ : ∃ c, M.getD q 0 = c := ⟨_, rfl⟩
            obtain ⟨mp, emp⟩ : ∃ c, M.getD p 0 = c := ⟨_, rfl⟩
            have hhq := (unhide HBF).high q hqn
            have hhp := (unhide HBF).high p hpn
            have hlp := (unhide HBF).low p hpn
            have hcn := (unhide HBF).cnt_le
            rw [emq] at eQ hhq
            rw [emp] at eP hhp hlp
            have EMQ := hide emq
            have EMP := hide emp
            have hq1 : mq ≤ 144000 := by omega
            have hp1 : mp ≤ 144000 := by omega
            clear hlM emq emp hhq hhp hcn
            have p0 := fun x' : Gr wr => gr_cell a0 x'
            have p1 := fun x' : Gr wr => gr_cell a1 x'
            have p2 := fun x' : Gr wr => gr_cell a2 x'
            have p3 := fun x' : Gr wr => gr_cell a3 x'
            have rQ := fun x' : Gr wr => gr_cell eQ x'
            have rP := fun x' : Gr wr => gr_cell eP x'
            have rD := fun x' : Gr wr => gr_cell eD x'
            have gsome := gr_some wr
            have S1 := hide fun x' : Gr wr => l7Next_any s (p : Int) (q : Int) (.slice (some ⟨bd, od, none⟩) s.D.length dc) (.slice fao fn fc) x'.val (unhide HN) (by omega) hpi (by omega) hqi
            unfold vSea at S1
            by_cases c1 : 0 ≤ mq
            case neg =>
              have HREST : Hid (Rest s M p q) := fun _ h _ => by rw [unhide EMQ] at h; omega
              have d3 : decide (0 ≤ mq) = false := decide_eq_false c1
              go_wp2
              refine wp_region_grown (by kernel_rfl) (by kernel_rfl) ?_
              repeat (go_big_quiet_step (fail))
              refine wpQuiet_nil ?_
              intro w1 hw1
              obtain ⟨z', hz⟩ := hw1
              have hb1 : Below wr.heap.size wr w1 := hz ▸ z'.ok
              clear hz gsome
              go_wp2
              go_roundg (s.D.length - (q + 1))
              case measure => omega
              case rel => exact ⟨q + 1, M, a, by omega, rfl, by go_num, rfl, hide ((unhide HQ).step hb1), HBF, (unhide HST).grow (fun p' q' hp' hq' hd' => by
                by_cases e : p' = p ∧ q' = q
                · right; rw [e.1, e.2]; exact unhide HREST
                · left; omega)⟩
            have d3 : decide (0 ≤ mq) = true := decide_eq_true c1
            cases h5 : nextB s.wd (p : Int) (q : Int) with
            | false =>
              rw [h5] at S1
              have HREST : Hid (Rest s M p q) := fun _ _ h => by rw [h5] at h; cases h
              clear h5
              go_wp2
              refine wp_region_grown (by kernel_rfl) (by kernel_rfl) ?_
              repeat (go_big_quiet_step (fail))
              go_big_quiet_want
              go_big_quiet_op
              go_big_quiet_call (exact calls_grown (unhide S1 _))
              repeat (go_big_quiet_step (fail))
              refine wpQuiet_nil ?_
              intro w1 hw1
              obtain ⟨z', hz⟩ := hw1
              have hb1 : Below wr.heap.size wr w1 := hz ▸ z'.ok
              clear hz gsome
              go_wp2
              go_roundg (s.D.length - (q + 1))
              case measure => omega
              case rel => exact ⟨q + 1, M, a, by omega, rfl, by go_num, rfl, hide ((unhide HQ).step hb1), HBF, (unhide HST).grow (fun p' q' hp' hq' hd' => by
                by_cases e : p' = p ∧ q' = q
                · right; rw [e.1, e.2]; exact unhide HREST
                · left; omega)⟩
            | true =>
              rw [h5] at S1
              by_cases c2 : mp < 0
              · have d4 : decide (mp < 0) = true := decide_eq_true c2
                go_wp2
                refine wp_region_grown (by kernel_rfl) (by kernel_rfl) ?_
                repeat (go_big_quiet_step (fail))
                go_big_quiet_want
                go_big_quiet_op
                go_big_quiet_call (exact calls_grown (unhide S1 _))
                repeat (go_big_quiet_step (fail))
                refine wpQuiet_nil ?_
                intro w1 hw1
                obtain ⟨z', hz⟩ := hw1
                have hb1 : Below wr.heap.size wr w1 := hz ▸ z'.ok
                clear hz gsome
                have y2 := OwnV.cell (OwnV.step (unhide HQ).ob hb1) (i := 2) rfl
                have yQ := (hb1.cell (lt_of_cell eQ)).trans eQ
                have yD := (hb1.cell (lt_of_cell eD)).trans eD
                have yP := (hb1.cell (lt_of_cell eP)).trans eP
                have HQ1 := hide ((unhide HQ).step hb1)
                have fz := (unhide HQ1).oo.frozen
                have HQ2 := hide ((unhide HQ1).put (p := p) (by rw [(unhide HBF).len]; exact hpn) (mq + dp))
                have HPUT := hide ((unhide HBF).put (unhide HN) hpn hqn (by rw [unhide EMQ]; exact c1) (by rw [unhide EDP]; omega) h5 (by rw [unhide EMQ, unhide EMP, unhide EDP]; omega))
                rw [unhide EMQ, unhide EDP] at HPUT
                have qs : IntKind.i64.wrap (mq + dp) = mq + dp := by rw [IntKind.wrap_i64]; omega
                clear hb1 p0 p1 p2 p3 rQ rP rD S1 a0 a1 a2 a3
                go_wp2
                go_region_with (fail)
                all_goals
                  go_wp2
                  go_roundg (s.D.length - (q + 1))
                  case measure => omega
                  case rel => first | exact ⟨q + 1, M.set p (mq + dp), true, by omega, rfl, by go_num, rfl, HQ2, hide (unhide HPUT).1, (unhide HST).put (unhide HPUT).2⟩ | exact ⟨q + 1, M.set p (mq + dp), true, by omega, rfl, by go_num, rfl, hide ((unhide HQ2).step (below_drewN (Below.refl _ _) _)), hide (unhide HPUT).1, (unhide HST).put (unhide HPUT).2⟩
              have d4 : decide (mp < 0) = false := decide_eq_false c2
              have qq : IntKind.i64.wrap (mq + dp) = mq + dp := by rw [IntKind.wrap_i64]; omega
              by_cases c3 : mq + dp < mp
              · have d5 : decide (mq + dp < mp) = true := decide_eq_true c3
                go_wp2
                refine wp_region_grown (by kernel_rfl) (by kernel_rfl) ?_
                repeat (go_big_quiet_step (fail))
                go_big_quiet_want
                go_big_quiet_op
                go_big_quiet_call (exact calls_grown (unhide S1 _))
                repeat (go_big_quiet_step (fail))
                refine wpQuiet_nil ?_
                intro w1 hw1
                obtain ⟨z', hz⟩ := hw1
                have hb1 : Below wr.heap.size wr w1 := hz ▸ z'.ok
                clear hz gsome
                have y2 := OwnV.cell (OwnV.step (unhide HQ).ob hb1) (i := 2) rfl
                have yQ := (hb1.cell (lt_of_cell eQ)).trans eQ
                have yD := (hb1.cell (lt_of_cell eD)).trans eD
                have yP := (hb1.cell (lt_of_cell eP)).trans eP
                have HQ1 := hide ((unhide HQ).step hb1)
                have fz := (unhide HQ1).oo.frozen
                have HQ2 := hide ((unhide HQ1).put (p := p) (by rw [(unhide HBF).len]; exact hpn) (mq + dp))
                have HPUT := hide ((unhide HBF).put (unhide HN) hpn hqn (by rw [unhide EMQ]; exact c1) (by rw [unhide EDP]; omega) h5 (by rw [unhide EMQ, unhide EMP, unhide EDP]; omega))
                rw [unhide EMQ, unhide EDP] at HPUT
                have qs : IntKind.i64.wrap (mq + dp) = mq + dp := by rw [IntKind.wrap_i64]; omega
                clear hb1 p0 p1 p2 p3 rQ rP rD S1 a0 a1 a2 a3
                go_wp2
                go_region_with (fail)
                all_goals
                  go_wp2
                  go_roundg (s.D.length - (q + 1))
                  case measure => omega
                  case rel => first | exact ⟨q + 1, M.set p (mq + dp), true, by omega, rfl, by go_num, rfl, HQ2, hide (unhide HPUT).1, (unhide HST).put (unhide HPUT).2⟩ | exact ⟨q + 1, M.set p (mq + dp), true, by omega, rfl, by go_num, rfl, hide ((unhide HQ2).step (below_drewN (Below.refl _ _) _)), hide (unhide HPUT).1, (unhide HST).put (unhide HPUT).2⟩
              · have d5 : decide (mq + dp < mp) = false := decide_eq_false c3
                have HREST : Hid (Rest s M p q) := fun _ _ _ => by rw [unhide EMP, unhide EMQ, unhide EDP]; omega
                go_wp2
                refine wp_region_grown (by kernel_rfl) (by kernel_rfl) ?_
                repeat (go_big_quiet_step (fail))
                go_big_quiet_want
                go_big_quiet_op
                go_big_quiet_call (exact calls_grown (unhide S1 _))
                repeat (go_big_quiet_step (fail))
                refine wpQuiet_nil ?_
                intro w1 hw1
                obtain ⟨z', hz⟩ := hw1
                have hb1 : Below wr.heap.size wr w1 := hz ▸ z'.ok
                clear hz gsome
                go_wp2
                go_roundg (s.D.length - (q + 1))
                case measure => omega
                case rel => exact ⟨q + 1, M, a, by omega, rfl, by go_num, rfl, hide ((unhide HQ).step hb1), HBF, (unhide HST).grow (fun p' q' hp' hq' hd' => by
                  by_cases e : p' = p ∧ q' = q
                  · right; rw [e.1, e.2]; exact unhide HREST
                  · left; omega)⟩

end Go.Proofs.Ytdpcacfgbjllhaa

/- What Cheapest tells is one thing alone. -/
namespace Go.Proofs.Ytdpcacfgbjllhaa
open Go.RowKit

theorem cheap_ex (s : Se) (x : Int) : ∃ cs : List Int × Bool, cs.1.length ≤ 1048576 ∧ ∀ N c, CheapAns s x N c → N = cs.1 ∧ c = cs.2 := by
  by_cases h : ∃ M b, CheapAns s x M b
  · obtain ⟨M, b, h⟩ := h
    refine ⟨(M, b), ?_, fun N c h' => cheap_one h' h⟩
    rcases h with ⟨h1, -, h3, -⟩ | ⟨-, -, h3⟩
    · rw [Bool.and_eq_true] at h1
      have := (seaB_n h1.1).le
      simp only
      omega
    · rw [h3]; simp
  · exact ⟨([], false), by simp, fun N c h' => absurd ⟨N, c, h'⟩ h⟩
theorem cheap_got {s : Se} {x : Int} {M : List Int} {V : Bool} (h : ∀ N c, CheapAns s x N c → N = M ∧ c = V) {w w' : World} {e : Ending} (hp : CheapPost s x w w' e) :
    ∃ a n cp, e = .returned (.tuple #[.slice a n cp, .bool V]) ∧ OwnSl w.heap.size w' (.slice a n cp) M ∧ Below w.heap.size w w' := by
  obtain ⟨N, c, a, n, cp, hc, he, ho, hb⟩ := hp
  obtain ⟨rfl, rfl⟩ := h N c hc
  exact ⟨a, n, cp, he, ho, hb⟩

end Go.Proofs.Ytdpcacfgbjllhaa

/- Contracts of the program's isSpan, costsOk, shutOk and SeaOk. Written by wip/mksea.py. -/
namespace Go.Proofs.Ytdpcacfgbjllhaa
open Go.RowKit

theorem isSpan_any (x a b : Int) (w : World) : Calls Try.prog 60 #[.int .i64 x, .int .i64 a, .int .i64 b] w fun e w' => e = .returned (.bool (inB x 0 b && inB a x b)) ∧ w' = w := by
  cases h1 : inB x 0 b <;> cases h2 : inB a x b
  all_goals
    go_enter Try.func60, Try.ntmps60
    go_wp2_with (go_at_call 36; refine (within_any _ _ _ _).mono ?_; rintro e w' ⟨rfl, h9⟩; have h8 := h9.symm; subst h8; clear h9)
    go_ret
    exact ⟨rfl, rfl⟩

theorem clB_spans (x0 x1 x2 x3 x4 x5 : Int) : clB (x0, x1, x2, x3, x4, x5) = ((inB x0 0 11 && inB x2 x0 11) && (inB x1 0 11 && inB x3 x1 11) && (inB x4 0 1000000 && inB x5 x4 1000000)) := by
  rw [Bool.eq_iff_iff]
  simp only [clB, inB, Bool.and_eq_true, decide_eq_true_eq]
  omega

set_option maxRecDepth 10000 in
set_option maxHeartbeats 4000000 in
theorem costsOk_any (wd hg : Int) (D : List Int) (dao : Option Addr) (dn dc : Nat) (fv : Value) (w : World) (hD : IntsIn w (.slice dao dn dc) D) (hw0 : 1 ≤ wd) (hw1 : wd ≤ 12) (hh0 : 1 ≤ hg) (hh1 : hg ≤ 12) :
    Calls Try.prog 37 #[vSea wd hg (.slice dao dn dc) fv] w fun e w' => e = .returned (.bool (decide ((D.length : Int) = wd * hg) && D.all (fun d => inB d 0 1000))) ∧ Below w.heap.size w w' := by
  have A := Below.alloc1 w (.cells #[.int .i64 wd, .int .i64 hg, .slice dao dn dc, fv] 27)
  obtain ⟨dao', dc', eD, hdl, hdm, hdc⟩ := hD
  simp only [Value.slice.injEq] at eD
  obtain ⟨rfl, rfl, rfl⟩ := eD
  unfold maxLen at hdm
  have HDC := hide hdc
  have HW := hide A
  clear A hdc
  obtain ⟨p, ep⟩ : ∃ p, p = wd * hg := ⟨_, rfl⟩
  have hp : 1 ≤ p ∧ p ≤ 144 := by rw [ep]; exact mul_s12 hw0 hw1 hh0 hh1
  obtain ⟨hp0, hp1⟩ := hp
  have qp : IntKind.i64.wrap (wd * hg) = p := by rw [← ep, IntKind.wrap_i64]; omega
  rw [← ep]
  clear ep
  unfold vSea
  by_cases h3 : (D.length : Int) = p
  case neg =>
    have d3 : ((D.length : Int) != p) = true := by simp; exact h3
    have d3' : ((D.length : Int) == p) = false := by simp; exact h3
    rw [decide_eq_false h3, Bool.false_and]
    go_enter Try.func37, Try.ntmps37
    go_wp2
    go_ret
    exact ⟨rfl, unhide HW⟩
  have d3 : ((D.length : Int) != p) = false := by simp; exact h3
  have d3' : ((D.length : Int) == p) = true := by simp; exact h3
  rw [decide_eq_true h3, Bool.true_and]
  go_enter Try.func37, Try.ntmps37
  go_wp2
  obtain ⟨W0, eW⟩ : ∃ z, z = w.alloc (.cells #[.int .i64 wd, .int .i64 hg, .slice dao D.length dc, fv] 27) := ⟨_, rfl⟩
  rw [← eW] at HW ⊢
  clear eW d3 d3' qp
  go_loopg [17] D.length (fun g i wr => W0 = wr ∧ ∃ k : Nat, k ≤ D.length ∧ g = D.length - k ∧ i = .int .i64 k ∧ Hid (∀ r, r < k → inB (D.getD r 0) 0 1000 = true))
  case atStart => exact ⟨rfl, 0, Nat.zero_le _, rfl, rfl, fun r hr => by omega⟩
  case round =>
    obtain ⟨rfl, k, hk, rfl, rfl, HDD⟩ := hrel
    by_cases hkn : k < D.length
    · obtain ⟨b, o, rfl, hcell⟩ := unhide HDC k hkn
      have g0 := ((unhide HW).cell (lt_of_cell hcell)).trans hcell
      have hki : (k : Int) < D.length := by omega
      cases hin : inB (D.getD k 0) 0 1000 with
      | true =>
        have HD' : Hid (∀ r, r < k + 1 → inB (D.getD r 0) 0 1000 = true) := fun r hr => by
          by_cases e : r = k
          · subst e; exact hin
          · exact (unhide HDD) r (by omega)
        clear HDD hcell
        generalize D.getD k 0 = x at *
        go_wp2_with (go_at_call 36; refine (within_any _ _ _ _).mono ?_; rintro e w' ⟨rfl, h9⟩; have h8 := h9.symm; subst h8; clear h9)
        go_roundg (D.length - (k + 1))
        case measure => omega
        case rel => exact ⟨rfl, k + 1, by omega, rfl, by go_num, HD'⟩
      | false =>
        have HN := hide (all_false (p := fun d => inB d 0 1000) hkn hin)
        clear HDD hcell
        generalize D.getD k 0 = x at *
        go_wp2_with (go_at_call 36; refine (within_any _ _ _ _).mono ?_; rintro e w' ⟨rfl, h9⟩; have h8 := h9.symm; subst h8; clear h9)
        go_ret
        exact ⟨ret_bool (unhide HN).symm, unhide HW⟩
    · have HAD := hide (all_true (p := fun d => inB d 0 1000) (xs := D) (d := 0) (fun r hr => (unhide HDD) r (by omega)))
      have hki : ¬ (k : Int) < D.length := by omega
      clear HDD
      go_wp2
      go_ret
      exact ⟨ret_bool (unhide HAD).symm, unhide HW⟩

set_option maxRecDepth 10000 in
set_option maxHeartbeats 8000000 in
theorem shutOk_any (v : Value) (F : List ClosedT) (w : World) (h : RClosed w v F) :
    Calls Try.prog 38 #[v] w fun e w' => e = .returned (.bool (decide (F.length ≤ 10) && F.all clB)) ∧ Below w.heap.size w w' := by
  obtain ⟨ao, cap, rfl, hl, hm, hc⟩ := h
  unfold maxLen at hm
  have HFC := hide hc
  clear hc
  by_cases h4 : F.length ≤ 10
  case neg =>
    have h4i : (10 : Int) < F.length := by omega
    rw [decide_eq_false h4, Bool.false_and]
    go_enter Try.func38, Try.ntmps38
    go_wp2
    go_ret
    exact ⟨rfl, Below.refl _ _⟩
  have h4i : (F.length : Int) ≤ 10 := by omega
  rw [decide_eq_true h4, Bool.true_and]
  go_enter Try.func38, Try.ntmps38
  go_wp2
  go_loopg [10] F.length (fun g i wr => Below w.heap.size w wr ∧ ∃ k : Nat, k ≤ F.length ∧ g = F.length - k ∧ i = .int .i64 k ∧ Hid (∀ r, r < k → clB (F.getD r default) = true))
  case atStart => exact ⟨Below.refl _ _, 0, Nat.zero_le _, rfl, rfl, fun r hr => by omega⟩
  case round =>
    obtain ⟨hWq, k, hk, rfl, rfl, HFF⟩ := hrel
    by_cases hkn : k < F.length
    · obtain ⟨b, o, x0, x1, x2, x3, x4, x5, rfl, hc0, hc1, hc2, hc3, hc4, hc5, EX⟩ := recClosedAt (unhide HFC) hkn
      have g0 := wcell3 hc0 hWq
      have g1 := wcell3 hc1 hWq
      have g2 := wcell3 hc2 hWq
      have g3 := wcell3 hc3 hWq
      have g4 := wcell3 hc4 hWq
      have g5 := wcell3 hc5 hWq
      have HWA := hide (Below.step hWq (Below.alloc1 wr (.cells #[.int .i64 x0, .int .i64 x1, .int .i64 x2, .int .i64 x3, .int .i64 x4, .int .i64 x5] 87)))
      have hkF : (k : Int) < F.length := by omega
      have HNO : Hid (clB (x0, x1, x2, x3, x4, x5) = false → F.all clB = false) := fun h => all_false (xs := F) (p := clB) (d := default) (i := k) hkn (by rw [unhide EX]; exact h)
      have HYES : Hid (clB (x0, x1, x2, x3, x4, x5) = true → ∀ r, r < k + 1 → clB (F.getD r default) = true) := fun h r hr => by
        by_cases e : r = k
        · rw [e, unhide EX]; exact h
        · exact (unhide HFF) r (by omega)
      rw [clB_spans] at HNO HYES
      clear hc0 hc1 hc2 hc3 hc4 hc5 hWq EX HFF
      cases h1 : (inB x0 0 11 && inB x2 x0 11)
      · have HN := hide (unhide HNO (by rw [h1]; simp))
        clear HNO HYES
        go_wp2_with (go_at_call 60; refine (isSpan_any _ _ _ _).mono ?_; rintro e w' ⟨rfl, h9⟩; have h8 := h9.symm; subst h8; clear h9)
        go_ret
        exact ⟨ret_bool (unhide HN).symm, unhide HWA⟩
      cases h2 : (inB x1 0 11 && inB x3 x1 11)
      · have HN := hide (unhide HNO (by rw [h2]; simp))
        clear HNO HYES
        go_wp2_with (go_at_call 60; refine (isSpan_any _ _ _ _).mono ?_; rintro e w' ⟨rfl, h9⟩; have h8 := h9.symm; subst h8; clear h9)
        go_ret
        exact ⟨ret_bool (unhide HN).symm, unhide HWA⟩
      cases h3 : (inB x4 0 1000000 && inB x5 x4 1000000)
      · have HN := hide (unhide HNO (by rw [h3]; simp))
        clear HNO HYES
        go_wp2_with (go_at_call 60; refine (isSpan_any _ _ _ _).mono ?_; rintro e w' ⟨rfl, h9⟩; have h8 := h9.symm; subst h8; clear h9)
        go_ret
        exact ⟨ret_bool (unhide HN).symm, unhide HWA⟩
      have HFF := hide (unhide HYES (by rw [h1, h2, h3]; rfl))
      clear HNO HYES
      go_wp2_with (go_at_call 60; refine (isSpan_any _ _ _ _).mono ?_; rintro e w' ⟨rfl, h9⟩; have h8 := h9.symm; subst h8; clear h9)
      go_roundg (F.length - (k + 1))
      case measure => omega
      case rel => exact ⟨unhide HWA, k + 1, by omega, rfl, by go_num, HFF⟩
    · have HAF := hide (all_true (xs := F) (d := default) (p := clB) (fun r hr => unhide HFF r (by omega)))
      have hkF : ¬ (k : Int) < F.length := by omega
      have HA := hide hWq
      clear HFF hWq
      go_wp2
      go_ret
      exact ⟨ret_bool (unhide HAF).symm, unhide HA⟩

set_option maxRecDepth 10000 in
set_option maxHeartbeats 8000000 in
theorem implSeaOk_any (s : Se) (dao : Option Addr) (dn dc : Nat) (fao : Option Addr) (fn fc : Nat) (w : World) (hD : IntsIn w (.slice dao dn dc) s.D) (hF : RClosed w (.slice fao fn fc) s.F) :
    Calls Try.prog 9 #[vSea s.wd s.hg (.slice dao dn dc) (.slice fao fn fc)] w fun e w' => e = .returned (.bool (seaB s)) ∧ Below w.heap.size w w' := by
  obtain ⟨wd, hg, D, F⟩ := s
  dsimp only at hD hF ⊢
  have A := Below.alloc1 w (.cells #[.int .i64 wd, .int .i64 hg, .slice dao dn dc, .slice fao fn fc] 27)
  have O := ownV_alloc w #[.int .i64 wd, .int .i64 hg, .slice dao dn dc, .slice fao fn fc] 27
  have HD := hide (hD.below A)
  have HF := hide (hF.below A)
  have HW := hide A
  have HO := hide O
  clear A O hD hF
  obtain ⟨r, er⟩ : ∃ r, r = seaB ⟨wd, hg, D, F⟩ := ⟨_, rfl⟩
  rw [← er]
  have ER := hide er
  clear er
  unfold seaB sea0B at ER
  dsimp only at ER
  unfold vSea
  cases h1 : inB wd 1 12
  · have e1 : r = false := by rw [unhide ER, h1]; simp
    subst e1
    go_enter Try.func9, Try.ntmps9
    go_wp2_with (go_at_call 36; refine (within_any _ _ _ _).mono ?_; rintro e w' ⟨rfl, h9⟩; have h8 := h9.symm; subst h8; clear h9)
    go_ret
    exact ⟨rfl, unhide HW⟩
  cases h2 : inB hg 1 12
  · have e1 : r = false := by rw [unhide ER, h2]; simp
    subst e1
    go_enter Try.func9, Try.ntmps9
    go_wp2_with (go_at_call 36; refine (within_any _ _ _ _).mono ?_; rintro e w' ⟨rfl, h9⟩; have h8 := h9.symm; subst h8; clear h9)
    go_ret
    exact ⟨rfl, unhide HW⟩
  obtain ⟨hw0, hw1⟩ := inB_true h1
  obtain ⟨hh0, hh1⟩ := inB_true h2
  have HC := hide (costsOk_any wd hg D dao dn dc (.slice fao fn fc) _ (unhide HD) hw0 hw1 hh0 hh1)
  unfold vSea at HC
  rw [h1, h2] at ER
  cases h3 : (decide ((D.length : Int) = wd * hg) && D.all (fun d => inB d 0 1000)) with
  | false =>
    rw [h3] at HC
    have e1 : r = false := by
      rw [unhide ER]
      rw [Bool.and_eq_false_iff] at h3
      rcases h3 with h3 | h3 <;> rw [h3] <;> simp
    subst e1
    clear h3
    go_enter Try.func9, Try.ntmps9
    go_wp2_with (first | (go_at_call 36; refine (within_any _ _ _ _).mono ?_; rintro e w' ⟨rfl, h9⟩; have h8 := h9.symm; subst h8; clear h9) | (go_at_call 37; refine (unhide HC).mono ?_; rintro e w1 ⟨rfl, hb⟩; replace HW := hide (Below.step (unhide HW) hb); clear hb))
    go_ret
    exact ⟨rfl, unhide HW⟩
  | true =>
    rw [h3] at HC
    have e1 : r = (decide (F.length ≤ 10) && F.all clB) := by
      rw [unhide ER]
      rw [Bool.and_eq_true] at h3
      rw [h3.1, h3.2]
      simp
    clear ER h3
    have ES := hide e1
    clear e1
    have HS := hide fun V h => shutOk_any (.slice fao fn fc) F V h
    go_enter Try.func9, Try.ntmps9
    go_wp2_with (first | (go_at_call 36; refine (within_any _ _ _ _).mono ?_; rintro e w' ⟨rfl, h9⟩; have h8 := h9.symm; subst h8; clear h9) | (go_at_call 37; refine (unhide HC).mono ?_; rintro e w1 ⟨rfl, hb⟩; have c3 := OwnV.cell (OwnV.step (unhide HO) hb) (i := 3) rfl; replace HW := hide (Below.step (unhide HW) hb); replace HF := hide ((unhide HF).below hb); clear hb) | (go_at_call 38; refine (unhide HS _ (unhide HF)).mono ?_; rintro e w2 ⟨rfl, hb⟩; replace HW := hide (Below.step (unhide HW) hb); clear hb))
    go_ret
    exact ⟨ret_bool (by rw [unhide ES]), unhide HW⟩

end Go.Proofs.Ytdpcacfgbjllhaa

/- Two rows of one's own beside each other, each appended to; rows of records. -/
namespace Go.Proofs.Ytdpcacfgbjllhaa
open Go.RowKit

/-- Two slices that own their rows, which are apart. -/
structure TwoR (N : Nat) (e : TypeId) (size : Nat) (A : World) (v v' : Value) (k k' : Nat) (xs ys : List Value) : Prop where
  a : A.ownsRow N e size v k xs
  b : A.ownsRow N e size v' k' ys
  ne : ∀ g, v.ownBlock = some g → v'.ownBlock ≠ some g

theorem TwoR.symm {N : Nat} {e : TypeId} {size : Nat} {A : World} {v v' : Value} {k k' : Nat} {xs ys : List Value} (h : TwoR N e size A v v' k k' xs ys) : TwoR N e size A v' v k' k ys xs := ⟨h.b, h.a, fun g h1 h2 => h.ne g h2 h1⟩

theorem TwoR.below {N : Nat} {e : TypeId} {size : Nat} {A B : World} {v v' : Value} {k k' : Nat} {xs ys : List Value} (h : TwoR N e size A v v' k k' xs ys) (hb : Below A.heap.size A B) : TwoR N e size B v v' k k' xs ys := ⟨ownsRow_below h.a hb, ownsRow_below h.b hb, h.ne⟩

/-- Behind an append to the first. -/
theorem TwoR.grown {N : Nat} {e : TypeId} {size : Nat} {A B : World} {v v' : Value} {k k' m cap g : Nat} {xs ys zs : List Value} (h : TwoR N e size A v v' k k' xs ys)
    (ho : B.ownsRow N e size (.slice (some ⟨g, 0, none⟩) m cap) m zs) (hg : A.grownBy B v.ownBlock) (hat : v.ownBlock = some g ∨ g = A.heap.size) : TwoR N e size B (.slice (some ⟨g, 0, none⟩) m cap) v' m k' zs ys := by
  refine ⟨ho, h.b.kept hg ?_, fun g' h1 h2 => ?_⟩
  · cases hv : v'.ownBlock with
    | none => exact .inl rfl
    | some b => exact .inr (fun e' => h.ne b e'.symm hv)
  · simp only [Value.ownBlock, Option.some.injEq] at h1
    subst h1
    rcases hat with h3 | h3
    · exact h.ne _ h3 h2
    · have := (h.b.lt _ h2).2; omega

theorem ownsRow_setOther {w : World} {base n size : Nat} {e : TypeId} {v : Value} {xs : List Value} (h : w.ownsRow base e size v n xs) {a : Addr} (hne : v.ownBlock ≠ some a.block) (x : Value) : (w.setCell a x).ownsRow base e size v n xs := by
  obtain ⟨h1, h2⟩ := h
  refine ⟨h1, ?_⟩
  rcases h2 with h2 | ⟨g, cap, cur, rfl, hg, hh, r⟩
  · exact Or.inl h2
  · exact Or.inr ⟨g, cap, cur, rfl, hg, (Below.heap_setCell _ _ _ _ (fun e' => hne (by simp [Value.ownBlock, e']))).trans hh, r⟩

theorem TwoR.setOther {N : Nat} {e : TypeId} {size : Nat} {A : World} {v v' : Value} {k k' : Nat} {xs ys : List Value} (h : TwoR N e size A v v' k k' xs ys) {a : Addr} (h1 : v.ownBlock ≠ some a.block) (h2 : v'.ownBlock ≠ some a.block) (x : Value) : TwoR N e size (A.setCell a x) v v' k k' xs ys := ⟨ownsRow_setOther h.a h1 x, ownsRow_setOther h.b h2 x, h.ne⟩

theorem recCells_snoc (L : List I3) (p : I3) : recCells 3 e3 (L ++ [p]) = recCells 3 e3 L ++ [.int .i64 p.1, .int .i64 p.2.1, .int .i64 p.2.2] := by
  have e : (L ++ [p]).length * 3 = L.length * 3 + 1 + 1 + 1 := by simp; omega
  unfold recCells
  rw [e, List.range_succ, List.range_succ, List.range_succ]
  simp only [List.map_append, List.map_cons, List.map_nil, List.append_assoc, List.cons_append, List.nil_append]
  congr 1
  · apply List.map_congr_left
    intro k hk
    have : k / 3 < L.length := by simp at hk; omega
    simp [List.getD, List.getElem?_append, this]
  · have h0 : L.length * 3 / 3 = L.length := by omega
    have h1 : (L.length * 3 + 1) / 3 = L.length := by omega
    have h2 : (L.length * 3 + 1 + 1) / 3 = L.length := by omega
    have m0 : L.length * 3 % 3 = 0 := by omega
    have m1 : (L.length * 3 + 1) % 3 = 1 := by omega
    have m2 : (L.length * 3 + 1 + 1) % 3 = 2 := by omega
    rw [h0, h1, h2, m0, m1, m2]
    simp [List.getD, e3]

/-- A slice that owns the cells of records reads as they. -/
theorem ownsRow_recs {w : World} {base : Nat} {e : TypeId} {v : Value} {k : Nat} {L : List I3} (h : w.ownsRow base e 3 v k (recCells 3 e3 L)) (hk : L.length = k) : R3 w v L := by
  obtain ⟨h1, h2⟩ := h
  rcases h2 with ⟨rfl, h0⟩ | ⟨g, cap, cur, rfl, hg, hh, hc, hm, hs, ht⟩
  · have : L = [] := List.length_eq_zero_iff.1 (by omega)
    subst this
    exact recsIn_nil
  · subst hk
    refine OwnV.recsIn ⟨cur, e, hh, fun i hi => ?_⟩ hc hm
    rw [recCells_length] at hi
    rw [← ht]
    simp [hi]

end Go.Proofs.Ytdpcacfgbjllhaa

/- An append, also a guarded one, behind which the slice that was appended to still holds what it held. -/
namespace Go.Proofs.Ytdpcacfgbjllhaa
open Go.RowKit

theorem run_append_keeps {P : Program} (w : World) (t ty : TypeId) (base : Nat) (e : TypeId) (i : TypeInfo) (z : Value) (size bytes : Nat) (ht : P.underlying t = some (.slice e)) (hi : P.info? e = some i) (hz : i.zero = some z)
    (hsize : i.size = size) (hby : i.bytes = bytes) (hzs : z.cells.size = size) (hsz : 0 < size)
    (g n cap : Nat) (xs : List Value) (hown : w.ownsRow base e size (.slice (some ⟨g, 0, none⟩) n cap) n xs)
    (ad : Addr) (m c : Nat) (news : List Value) (hl : news.length = m * size) (hnews : ∀ j u, news[j]? = some u → w.cell? (ad.add j) = some u) (h1 : ∀ u ∈ news, u.oneCell' = true)
    (hm : 0 < m) (h63 : n + m ≤ maxLen) (hbytes : (n + m) * bytes ≤ 140737488355328) (hbase : base ≤ w.heap.size) :
    ∃ g' cap' w', (Builtin.append_ #[t, t] ty #[.slice (some ⟨g, 0, none⟩) n cap, .slice (some ad) m c]).run P w = .ok (.slice (some ⟨g', 0, none⟩) (n + m) cap') w' ∧
      w'.ownsRow base e size (.slice (some ⟨g', 0, none⟩) (n + m) cap') (n + m) (xs ++ news) ∧ w.grownBy w' (some g) ∧ (some g = some g' ∨ g' = w.heap.size) ∧ w'.ownsRow base e size (.slice (some ⟨g, 0, none⟩) n cap) n xs := by
  obtain ⟨g', cap', w', hrun, h2, h3, h4, h5⟩ := run_append_lies (P := P) w t ty base e i z size bytes ht hi hz hsize hby hzs hsz _ n xs hown ad m c news hl hnews h1 hm h63 hbytes hbase _ rfl
  refine ⟨g', cap', w', hrun, h2, h3, h4, ?_⟩
  rcases hown.2 with ⟨hv, _⟩ | ⟨g2, cap2, cur, hv, hg, hh, hc, hmx, hs, htk⟩
  · cases hv
  simp only [Value.slice.injEq, Option.some.injEq, Addr.mk.injEq, and_true, true_and] at hv
  obtain ⟨rfl, rfl⟩ := hv
  refine ⟨hown.1, ?_⟩
  by_cases hroom : n + m ≤ cap
  · have hb : (n + m) * size ≤ cap * size := Nat.mul_le_mul_right _ hroom
    rw [Nat.add_mul] at hb
    have := run_append_room (P := P) w t ty e i ht hi g n cap cur hh ad m c news (by rw [hsize]; exact hl) hnews h1 hroom (by rw [hsize, hs, hl]; omega)
    rw [hrun] at this
    simp only [Result.ok.injEq] at this
    obtain ⟨_, rfl⟩ := this
    refine Or.inr ⟨g, cap, _, rfl, hg, setRow_heap w g cur _ e _ hh, hc, hmx, ?_, ?_⟩
    · simp only [List.size_toArray, List.length_append, List.length_take, List.length_drop, Array.length_toList, hsize, hs, hl]
      omega
    · rw [hsize, htk]
      simp only [List.append_assoc]
      rw [← hown.1]
      exact List.take_left
  · subst hsize
    have := run_append_grow (P := P) w t ty e i z ht hi hz ⟨g, 0, none⟩ n cap xs hown.1 (hown.cells (g := g) rfl) ad m c news hl hnews (by omega) (by unfold maxLen at h63; omega) (growslice_fits (by omega) (by rw [hby]; exact hbytes))
    rw [hrun] at this
    simp only [Result.ok.injEq] at this
    obtain ⟨_, rfl⟩ := this
    exact Or.inr ⟨g, cap, cur, rfl, hg, (heap_alloc_old w.drew _ (Array.getElem?_eq_some_iff.1 hh).1).trans hh, hc, hmx, hs, htk⟩

theorem wpList_append_keeps {P : Program} (w : World) {ops : Array Oper} {rest : List Oper} {o : Oper} {a : Act} {Q : Exit → Act → World → Prop} (hwt : Region.wanted o (yielded ops a.tmps) = true) (s x : Operand) (t : TypeId)
    (ho : o.op = .call { callee := .builtin .append, args := #[s, x], argTypes := #[t, t] })
    (base : Nat) (e : TypeId) (i : TypeInfo) (z : Value) (size bytes : Nat) (ht : P.underlying t = some (.slice e)) (hi : P.info? e = some i) (hz : i.zero = some z)
    (hsize : i.size = size) (hby : i.bytes = bytes) (hzs : z.cells.size = size) (hsz : 0 < size)
    (g n cap : Nat) (xs : List Value) (hs : a.eval s = .slice (some ⟨g, 0, none⟩) n cap) (hown : w.ownsRow base e size (.slice (some ⟨g, 0, none⟩) n cap) n xs)
    (ad : Addr) (m c : Nat) (news : List Value) (hx : a.eval x = .slice (some ad) m c) (hl : news.length = m * size) (hnews : ∀ j u, news[j]? = some u → w.cell? (ad.add j) = some u) (h1 : ∀ u ∈ news, u.oneCell' = true)
    (hm : 0 < m) (h63 : n + m ≤ maxLen) (hbytes : (n + m) * bytes ≤ 140737488355328) (hbase : base ≤ w.heap.size)
    (h : ∀ g' cap' w', w'.ownsRow base e size (.slice (some ⟨g', 0, none⟩) (n + m) cap') (n + m) (xs ++ news) → w.grownBy w' (some g) → (some g = some g' ∨ g' = w.heap.size) → w'.ownsRow base e size (.slice (some ⟨g, 0, none⟩) n cap) n xs →
      wpList P ops Q rest (a.put o.dst (.slice (some ⟨g', 0, none⟩) (n + m) cap')) w') : wpList P ops Q (o :: rest) a w := by
  refine wpList_step fun K hK => ?_
  rw [if_pos hwt]
  obtain ⟨g', cap', w', hr, h2, h3, h4, h5⟩ := run_append_keeps (P := P) w t o.type base e i z size bytes ht hi hz hsize hby hzs hsz g n cap xs hown ad m c news hl hnews h1 hm h63 hbytes hbase
  unfold Oper.wp execOp
  simp only [ho, resolve, invoke, builtin, Sem.run_bind, Sem.run_pure, Result.andThen_ok, List.map_toArray, List.map_cons, List.map_nil, hs, hx, hr]
  exact hK _ _ (h g' cap' w' h2 h3 h4 h5)

end Go.Proofs.Ytdpcacfgbjllhaa

/- Neighbours in numbers; contracts of the program's isOnSea, isSailed, neighbours. -/
namespace Go.Proofs.Ytdpcacfgbjllhaa
open Go.RowKit

def sailB (s : Se) (p : Int) : Bool := onB s p && !decide (costAt s p = 0)
def nbs (wd n p : Int) : List Int := (if wd ≤ p then [p - wd] else []) ++ ((if 0 < p % wd then [p - 1] else []) ++ ((if p % wd < wd - 1 then [p + 1] else []) ++ (if p + wd < n then [p + wd] else [])))
theorem sq1 {x y : Int} : x * x + y * y = 1 ↔ (x = 0 ∧ (y = 1 ∨ y = -1)) ∨ (y = 0 ∧ (x = 1 ∨ x = -1)) := by
  constructor
  · intro h
    have hx : -1 ≤ x ∧ x ≤ 1 := by
      constructor
      · apply Classical.byContradiction; intro hc
        have := Int.mul_le_mul (show (2 : Int) ≤ -x by omega) (show (2 : Int) ≤ -x by omega) (by omega) (by omega)
        rw [Int.neg_mul_neg] at this
        have h2 := (sq_bd (x := y) (b := y.natAbs) (by omega) (by omega)).1
        omega
      · apply Classical.byContradiction; intro hc
        have := Int.mul_le_mul (show (2 : Int) ≤ x by omega) (show (2 : Int) ≤ x by omega) (by omega) (by omega)
        have h2 := (sq_bd (x := y) (b := y.natAbs) (by omega) (by omega)).1
        omega
    have hy : -1 ≤ y ∧ y ≤ 1 := by
      constructor
      · apply Classical.byContradiction; intro hc
        have := Int.mul_le_mul (show (2 : Int) ≤ -y by omega) (show (2 : Int) ≤ -y by omega) (by omega) (by omega)
        rw [Int.neg_mul_neg] at this
        have h2 := (sq_bd (x := x) (b := x.natAbs) (by omega) (by omega)).1
        omega
      · apply Classical.byContradiction; intro hc
        have := Int.mul_le_mul (show (2 : Int) ≤ y by omega) (show (2 : Int) ≤ y by omega) (by omega) (by omega)
        have h2 := (sq_bd (x := x) (b := x.natAbs) (by omega) (by omega)).1
        omega
    have ex : x = -1 ∨ x = 0 ∨ x = 1 := by omega
    have ey : y = -1 ∨ y = 0 ∨ y = 1 := by omega
    rcases ex with rfl | rfl | rfl <;> rcases ey with rfl | rfl | rfl <;> omega
  · rintro (⟨rfl, rfl | rfl⟩ | ⟨rfl, rfl | rfl⟩) <;> rfl
theorem nbs_mem {s : Se} (hn : SeaN s) {a b : Int} (ha0 : 0 ≤ a) (ha1 : a < s.D.length) : b ∈ nbs s.wd s.D.length a ↔ (0 ≤ b ∧ b < s.D.length ∧ nextB s.wd a b = true) := by
  have hl := hn.len
  have h0 := hn.w0
  have h1 := hn.w1
  unfold nextB nbs
  rw [decide_eq_true_eq, sq1]
  generalize (s.D.length : Int) = n at *
  generalize s.wd = wd at *
  generalize s.hg = hg at *
  clear hn
  have e : wd = 1 ∨ wd = 2 ∨ wd = 3 ∨ wd = 4 ∨ wd = 5 ∨ wd = 6 ∨ wd = 7 ∨ wd = 8 ∨ wd = 9 ∨ wd = 10 ∨ wd = 11 ∨ wd = 12 := by omega
  have key : b ∈ ((if wd ≤ a then [a - wd] else []) ++ ((if 0 < a % wd then [a - 1] else []) ++ ((if a % wd < wd - 1 then [a + 1] else []) ++ (if a + wd < n then [a + wd] else [])))) ↔ ((wd ≤ a ∧ b = a - wd) ∨ (0 < a % wd ∧ b = a - 1) ∨ (a % wd < wd - 1 ∧ b = a + 1) ∨ (a + wd < n ∧ b = a + wd)) := by
    simp only [List.mem_append]
    have m : ∀ (c : Prop) [Decidable c] (x : Int), b ∈ (if c then [x] else []) ↔ (c ∧ b = x) := fun c _ x => by split <;> simp [*]
    rw [m, m, m, m]
  rw [key]
  rcases e with rfl | rfl | rfl | rfl | rfl | rfl | rfl | rfl | rfl | rfl | rfl | rfl <;> omega
theorem nbs_contains {s : Se} (hn : SeaN s) {a b : Int} (ha0 : 0 ≤ a) (ha1 : a < s.D.length) (hb0 : 0 ≤ b) (hb1 : b < s.D.length) : (nbs s.wd s.D.length a).contains b = nextB s.wd a b := by
  rw [Bool.eq_iff_iff, List.contains_iff_mem, nbs_mem hn ha0 ha1]
  exact ⟨fun h => h.2.2, fun h => ⟨hb0, hb1, h⟩⟩

set_option maxHeartbeats 800000 in
theorem isOnSea_any (s : Se) (p : Int) (dao : Option Addr) (dc : Nat) (fv : Value) (w : World) (hn : SeaN s) :
    Calls Try.prog 29 #[vSea s.wd s.hg (.slice dao s.D.length dc) fv, .int .i64 p] w fun e w' => e = .returned (.bool (onB s p)) ∧ Below w.heap.size w w' := by
  have HB := hide (Below.alloc1 w (.cells #[.int .i64 s.wd, .int .i64 s.hg, .slice dao s.D.length dc, fv] 27))
  have q2 : IntKind.i64.wrap ((s.D.length : Int) - 1) = (s.D.length : Int) - 1 := by have := hn.le; rw [IntKind.wrap_i64]; omega
  unfold vSea onB
  clear hn
  go_enter Try.func29, Try.ntmps29
  go_wp2_with (go_at_call 36; refine (within_any _ _ _ _).mono ?_; rintro e w' ⟨rfl, h9⟩; have h8 := h9.symm; subst h8; clear h9)
  go_ret
  exact ⟨rfl, unhide HB⟩

set_option maxHeartbeats 1600000 in
theorem isSailed_any (s : Se) (p : Int) (dao : Option Addr) (dn dc : Nat) (fv : Value) (w : World) (hn : SeaN s) (hD : IntsIn w (.slice dao dn dc) s.D) :
    Calls Try.prog 31 #[vSea s.wd s.hg (.slice dao dn dc) fv, .int .i64 p] w fun e w' => e = .returned (.bool (sailB s p)) ∧ Below w.heap.size w w' := by
  have A := Below.alloc1 w (.cells #[.int .i64 s.wd, .int .i64 s.hg, .slice dao dn dc, fv] 27)
  have O := ownV_alloc w #[.int .i64 s.wd, .int .i64 s.hg, .slice dao dn dc, fv] 27
  obtain ⟨dao', dc', eD, hdl, hdm, hdc⟩ := hD
  simp only [Value.slice.injEq] at eD
  obtain ⟨rfl, rfl, rfl⟩ := eD
  have HOS := hide fun V => isOnSea_any s p dao dc fv V hn
  have HDC := hide hdc
  have HW := hide A
  have HO := hide O
  clear A O hdc hn
  unfold vSea at HOS ⊢
  cases h1 : onB s p with
  | false =>
    have HN : Hid (sailB s p = false) := by show _ = _; unfold sailB; rw [h1]; rfl
    rw [h1] at HOS
    go_enter Try.func31, Try.ntmps31
    go_wp2_with fail
    refine (unhide HOS _).mono ?_
    rintro e w1 ⟨rfl, hb⟩
    replace HW := hide (Below.step (unhide HW) hb)
    clear hb HOS
    go_wp2
    go_ret
    exact ⟨ret_bool (unhide HN).symm, unhide HW⟩
  | true =>
    rw [h1] at HOS
    obtain ⟨pi, rfl, hpi⟩ : ∃ q : Nat, p = (q : Int) ∧ q < s.D.length := by
      unfold onB at h1
      obtain ⟨a, b⟩ := inB_true h1
      exact ⟨p.toNat, by omega, by omega⟩
    obtain ⟨bd, od, rfl, hcd⟩ := unhide HDC pi hpi
    have e1 := ((unhide HW).cell (lt_of_cell hcd)).trans hcd
    have HN : Hid (sailB s (pi : Int) = !decide (s.D.getD pi 0 = 0)) := by show _ = _; unfold sailB costAt; rw [h1]; rfl
    have hpiI : (pi : Int) < s.D.length := by omega
    generalize s.D.getD pi 0 = c at *
    clear hcd h1
    go_enter Try.func31, Try.ntmps31
    go_wp2_with fail
    refine (unhide HOS _).mono ?_
    rintro e w1 ⟨rfl, hb⟩
    have z2 := OwnV.cell (OwnV.step (unhide HO) hb) (i := 2) rfl
    have z1 := (hb.cell (lt_of_cell e1)).trans e1
    replace HW := hide (Below.step (unhide HW) hb)
    clear hb HOS e1
    go_wp2
    go_ret
    exact ⟨ret_bool (by rw [unhide HN, Bool.eq_iff_iff]; simp), unhide HW⟩

theorem Try.infoInt7 : (Try.prog.info? 3).map (fun i => (i.zero, i.size, i.bytes)) = some (some (.int .i64 0), 1, 8) := by kernel_rfl
theorem own_told1 {A : World} {B : Nat} {ov : Value} {M N : List Int} {k : Nat} (h : A.ownsRow B 3 1 ov k (ints M)) (e : M = N) : ∃ a n cp, ov = .slice a n cp ∧ OwnSl B A (.slice a n cp) N := by
  subst e
  have hk : k = M.length := by have := h.1; simp [ints] at this; omega
  subst hk
  have ho := (ownsRow_ownSl h).1
  obtain ⟨a, cp, ev, h1, h2, h3⟩ := ho
  subst ev
  exact ⟨a, _, cp, rfl, a, cp, rfl, h1, h2, h3⟩

set_option maxRecDepth 10000 in
set_option maxHeartbeats 16000000 in
theorem neighbours_any (s : Se) (p : Int) (dao : Option Addr) (dn dc : Nat) (fv : Value) (w : World) (hn : SeaN s) (hD : IntsIn w (.slice dao dn dc) s.D) (hp0 : 0 ≤ p) (hp1 : p < s.D.length) :
    Calls Try.prog 35 #[vSea s.wd s.hg (.slice dao dn dc) fv, .int .i64 p] w fun e w' => ∃ a n cp, e = .returned (.slice a n cp) ∧ OwnSl w.heap.size w' (.slice a n cp) (nbs s.wd s.D.length p) ∧ Below w.heap.size w w' := by
  obtain ⟨dao', dc', eD, hdl, hdm, hdc⟩ := hD
  simp only [Value.slice.injEq] at eD
  obtain ⟨rfl, rfl, rfl⟩ := eD
  clear hdc
  have A := Below.alloc1 w (.cells #[.int .i64 s.wd, .int .i64 s.hg, .slice dao s.D.length dc, fv] 27)
  have O := ownV_alloc w #[.int .i64 s.wd, .int .i64 s.hg, .slice dao s.D.length dc, fv] 27
  have hle := hn.le
  have hw0 := hn.w0
  have hw1 := hn.w1
  obtain ⟨a1, a2, a3, a4⟩ := mod_bd hp0 hw0
  unfold vSea nbs
  generalize s.D.length = n at *
  generalize s.wd = wd at *
  have t1 : Int.tmod p wd = p % wd := Int.tmod_eq_emod_of_nonneg hp0
  have hwz : (wd == 0) = false := by simp; omega
  have hwn : wd ≠ 0 := by omega
  generalize p % wd = x at *
  obtain ⟨N, eN⟩ : ∃ N, N = (if wd ≤ p then [p - wd] else []) ++ ((if 0 < x then [p - 1] else []) ++ ((if x < wd - 1 then [p + 1] else []) ++ (if p + wd < n then [p + wd] else []))) := ⟨_, rfl⟩
  rw [← eN]
  have EN := hide eN
  clear eN
  have u1 : IntKind.i64.wrap x = x := by rw [IntKind.wrap_i64]; omega
  have q1 : IntKind.i64.wrap (p - wd) = p - wd := by rw [IntKind.wrap_i64]; omega
  have q2 : IntKind.i64.wrap (p - 1) = p - 1 := by rw [IntKind.wrap_i64]; omega
  have q3 : IntKind.i64.wrap (p + 1) = p + 1 := by rw [IntKind.wrap_i64]; omega
  have q4 : IntKind.i64.wrap (p + wd) = p + wd := by rw [IntKind.wrap_i64]; omega
  have q5 : IntKind.i64.wrap (wd - 1) = wd - 1 := by rw [IntKind.wrap_i64]; omega
  have HW := hide A
  have HC0 := hide (O.cell (i := 0) rfl)
  have HC2 := hide (O.cell (i := 2) rfl)
  obtain ⟨i0, hi, hz0, hz1, hz2⟩ := info_parts Try.infoInt7
  clear A hn O hdl hdm
  go_enter Try.func35, Try.ntmps35
  go_upto_region 3 with (at_make; refine wpList_make_own _ rfl _ _ 24 rfl (w.heap.size + 1) 3 i0 (.int .i64 0) 1 Try.underlying24 hi hz0 hz1 .i64 .i64 _ 4 rfl rfl (by rfl) (by rw [hz2]; omega) (by unfold maxLen; omega) (by simp) ?_; intro w1 hown hgrow)
  have HX := hide ((Below.refl (w.heap.size + 1) (w.alloc (.cells #[.int .i64 wd, .int .i64 s.hg, .slice dao n dc, fv] 27))).grown hgrow (by simp) (fun g hg => by cases hg))
  replace HW := hide ((unhide HW).trans ((unhide HX).mono (by omega)))
  simp only [World.size_alloc] at hown
  have HR := hide hown
  clear hown hgrow
  have d0 := ((unhide HX).cell (p := ⟨w.heap.size, 0, none⟩) (by show w.heap.size < w.heap.size + 1; omega)).trans (unhide HC0)
  have d2 := ((unhide HX).cell (p := ⟨w.heap.size, 2, none⟩) (by show w.heap.size < w.heap.size + 1; omega)).trans (unhide HC2)
  by_cases c0 : wd ≤ p
  · skip
    have HR2 := hide (ownsRow_below (unhide HR) (Below.alloc1 w1 (.cells #[.int .i64 (p - wd)] 3)))
    have hsz := (unhide HX).size
    simp only [World.size_alloc] at hsz
    go_upto_region 5 with (at_builtin; refine wpList_append_lies _ rfl _ _ 24 rfl (w.heap.size + 1) 3 i0 _ 1 8 Try.underlying24 hi hz0 hz1 hz2 rfl (by decide) _ 0 _ rfl (unhide HR2) ⟨w1.heap.size, 0, none⟩ 1 1 [.int .i64 (p - wd)] rfl rfl (cell_one_new _ _ _) (by simp [Value.oneCell']) (by omega) (by unfold maxLen; omega) (by omega) (by simp; omega) _ rfl ?_; intro g4 cap4 w2 hown hgrow hat hlt4; have HWa := hide ((((Below.refl (w.heap.size + 1) w1)).alloc (by omega) (.cells #[.int .i64 (p - wd)] 3)).grown hgrow (by simp; omega) (fun g hg => ((unhide HR).lt g hg).1)); have HOW := hide hown; clear hown hgrow hat)
    replace HX := hide ((unhide HX).trans (unhide HWa))
    replace HW := hide ((unhide HW).trans ((unhide HWa).mono (by omega)))
    replace HR := HOW
    clear HOW HWa HR2 hlt4 hsz d0 d2
    have d0 := ((unhide HX).cell (p := ⟨w.heap.size, 0, none⟩) (by show w.heap.size < w.heap.size + 1; omega)).trans (unhide HC0)
    have d2 := ((unhide HX).cell (p := ⟨w.heap.size, 2, none⟩) (by show w.heap.size < w.heap.size + 1; omega)).trans (unhide HC2)
    by_cases c1 : 0 < x
    · skip
      have HR2 := hide (ownsRow_below (unhide HR) (Below.alloc1 w2 (.cells #[.int .i64 (p - 1)] 3)))
      have hsz := (unhide HX).size
      simp only [World.size_alloc] at hsz
      go_upto_region 7 with (at_builtin; refine wpList_append_lies _ rfl _ _ 24 rfl (w.heap.size + 1) 3 i0 _ 1 8 Try.underlying24 hi hz0 hz1 hz2 rfl (by decide) _ 1 _ rfl (unhide HR2) ⟨w2.heap.size, 0, none⟩ 1 1 [.int .i64 (p - 1)] rfl rfl (cell_one_new _ _ _) (by simp [Value.oneCell']) (by omega) (by unfold maxLen; omega) (by omega) (by simp; omega) _ rfl ?_; intro g4 cap4 w3 hown hgrow hat hlt4; have HWa := hide ((((Below.refl (w.heap.size + 1) w2)).alloc (by omega) (.cells #[.int .i64 (p - 1)] 3)).grown hgrow (by simp; omega) (fun g hg => ((unhide HR).lt g hg).1)); have HOW := hide hown; clear hown hgrow hat)
      replace HX := hide ((unhide HX).trans (unhide HWa))
      replace HW := hide ((unhide HW).trans ((unhide HWa).mono (by omega)))
      replace HR := HOW
      clear HOW HWa HR2 hlt4 hsz d0 d2
      have d0 := ((unhide HX).cell (p := ⟨w.heap.size, 0, none⟩) (by show w.heap.size < w.heap.size + 1; omega)).trans (unhide HC0)
      have d2 := ((unhide HX).cell (p := ⟨w.heap.size, 2, none⟩) (by show w.heap.size < w.heap.size + 1; omega)).trans (unhide HC2)
      by_cases c2 : x < wd - 1
      · skip
        have HR2 := hide (ownsRow_below (unhide HR) (Below.alloc1 w3 (.cells #[.int .i64 (p + 1)] 3)))
        have hsz := (unhide HX).size
        simp only [World.size_alloc] at hsz
        go_upto_region 9 with (at_builtin; refine wpList_append_lies _ rfl _ _ 24 rfl (w.heap.size + 1) 3 i0 _ 1 8 Try.underlying24 hi hz0 hz1 hz2 rfl (by decide) _ 2 _ rfl (unhide HR2) ⟨w3.heap.size, 0, none⟩ 1 1 [.int .i64 (p + 1)] rfl rfl (cell_one_new _ _ _) (by simp [Value.oneCell']) (by omega) (by unfold maxLen; omega) (by omega) (by simp; omega) _ rfl ?_; intro g4 cap4 w4 hown hgrow hat hlt4; have HWa := hide ((((Below.refl (w.heap.size + 1) w3)).alloc (by omega) (.cells #[.int .i64 (p + 1)] 3)).grown hgrow (by simp; omega) (fun g hg => ((unhide HR).lt g hg).1)); have HOW := hide hown; clear hown hgrow hat)
        replace HX := hide ((unhide HX).trans (unhide HWa))
        replace HW := hide ((unhide HW).trans ((unhide HWa).mono (by omega)))
        replace HR := HOW
        clear HOW HWa HR2 hlt4 hsz d0 d2
        have d0 := ((unhide HX).cell (p := ⟨w.heap.size, 0, none⟩) (by show w.heap.size < w.heap.size + 1; omega)).trans (unhide HC0)
        have d2 := ((unhide HX).cell (p := ⟨w.heap.size, 2, none⟩) (by show w.heap.size < w.heap.size + 1; omega)).trans (unhide HC2)
        by_cases c3 : p + wd < n
        · skip
          have HR2 := hide (ownsRow_below (unhide HR) (Below.alloc1 w4 (.cells #[.int .i64 (p + wd)] 3)))
          have hsz := (unhide HX).size
          simp only [World.size_alloc] at hsz
          go_upto_region 11 with (at_builtin; refine wpList_append_lies _ rfl _ _ 24 rfl (w.heap.size + 1) 3 i0 _ 1 8 Try.underlying24 hi hz0 hz1 hz2 rfl (by decide) _ 3 _ rfl (unhide HR2) ⟨w4.heap.size, 0, none⟩ 1 1 [.int .i64 (p + wd)] rfl rfl (cell_one_new _ _ _) (by simp [Value.oneCell']) (by omega) (by unfold maxLen; omega) (by omega) (by simp; omega) _ rfl ?_; intro g4 cap4 w5 hown hgrow hat hlt4; have HWa := hide ((((Below.refl (w.heap.size + 1) w4)).alloc (by omega) (.cells #[.int .i64 (p + wd)] 3)).grown hgrow (by simp; omega) (fun g hg => ((unhide HR).lt g hg).1)); have HOW := hide hown; clear hown hgrow hat)
          replace HX := hide ((unhide HX).trans (unhide HWa))
          replace HW := hide ((unhide HW).trans ((unhide HWa).mono (by omega)))
          replace HR := HOW
          clear HOW HWa HR2 hlt4 hsz d0 d2
          obtain ⟨a, n', cp, ev, hO⟩ := own_told1 (M := ([p - wd, p - 1, p + 1, p + wd] : List Int)) (N := N) (unhide HR) (by rw [unhide EN, if_pos c0, if_pos c1, if_pos c2, if_pos c3]; rfl)
          simp only [Value.slice.injEq] at ev
          obtain ⟨rfl, rfl, rfl⟩ := ev
          have HO2 := hide hO
          clear hO HR
          go_wp2
          go_ret
          exact ⟨_, _, _, rfl, OwnSl.mono (unhide HO2) (by omega), unhide HW⟩
        · skip
          go_upto_region 11 with (fail)
          clear d0 d2
          obtain ⟨a, n', cp, ev, hO⟩ := own_told1 (M := ([p - wd, p - 1, p + 1] : List Int)) (N := N) (unhide HR) (by rw [unhide EN, if_pos c0, if_pos c1, if_pos c2, if_neg c3]; rfl)
          simp only [Value.slice.injEq] at ev
          obtain ⟨rfl, rfl, rfl⟩ := ev
          have HO2 := hide hO
          clear hO HR
          go_wp2
          go_ret
          exact ⟨_, _, _, rfl, OwnSl.mono (unhide HO2) (by omega), unhide HW⟩
      · skip
        go_upto_region 9 with (fail)
        clear d0 d2
        have d0 := ((unhide HX).cell (p := ⟨w.heap.size, 0, none⟩) (by show w.heap.size < w.heap.size + 1; omega)).trans (unhide HC0)
        have d2 := ((unhide HX).cell (p := ⟨w.heap.size, 2, none⟩) (by show w.heap.size < w.heap.size + 1; omega)).trans (unhide HC2)
        by_cases c3 : p + wd < n
        · skip
          have HR2 := hide (ownsRow_below (unhide HR) (Below.alloc1 w3 (.cells #[.int .i64 (p + wd)] 3)))
          have hsz := (unhide HX).size
          simp only [World.size_alloc] at hsz
          go_upto_region 11 with (at_builtin; refine wpList_append_lies _ rfl _ _ 24 rfl (w.heap.size + 1) 3 i0 _ 1 8 Try.underlying24 hi hz0 hz1 hz2 rfl (by decide) _ 2 _ rfl (unhide HR2) ⟨w3.heap.size, 0, none⟩ 1 1 [.int .i64 (p + wd)] rfl rfl (cell_one_new _ _ _) (by simp [Value.oneCell']) (by omega) (by unfold maxLen; omega) (by omega) (by simp; omega) _ rfl ?_; intro g4 cap4 w5 hown hgrow hat hlt4; have HWa := hide ((((Below.refl (w.heap.size + 1) w3)).alloc (by omega) (.cells #[.int .i64 (p + wd)] 3)).grown hgrow (by simp; omega) (fun g hg => ((unhide HR).lt g hg).1)); have HOW := hide hown; clear hown hgrow hat)
          replace HX := hide ((unhide HX).trans (unhide HWa))
          replace HW := hide ((unhide HW).trans ((unhide HWa).mono (by omega)))
          replace HR := HOW
          clear HOW HWa HR2 hlt4 hsz d0 d2
          obtain ⟨a, n', cp, ev, hO⟩ := own_told1 (M := ([p - wd, p - 1, p + wd] : List Int)) (N := N) (unhide HR) (by rw [unhide EN, if_pos c0, if_pos c1, if_neg c2, if_pos c3]; rfl)
          simp only [Value.slice.injEq] at ev
          obtain ⟨rfl, rfl, rfl⟩ := ev
          have HO2 := hide hO
          clear hO HR
          go_wp2
          go_ret
          exact ⟨_, _, _, rfl, OwnSl.mono (unhide HO2) (by omega), unhide HW⟩
        · skip
          go_upto_region 11 with (fail)
          clear d0 d2
          obtain ⟨a, n', cp, ev, hO⟩ := own_told1 (M := ([p - wd, p - 1] : List Int)) (N := N) (unhide HR) (by rw [unhide EN, if_pos c0, if_pos c1, if_neg c2, if_neg c3]; rfl)
          simp only [Value.slice.injEq] at ev
          obtain ⟨rfl, rfl, rfl⟩ := ev
          have HO2 := hide hO
          clear hO HR
          go_wp2
          go_ret
          exact ⟨_, _, _, rfl, OwnSl.mono (unhide HO2) (by omega), unhide HW⟩
    · skip
      go_upto_region 7 with (fail)
      clear d0 d2
      have d0 := ((unhide HX).cell (p := ⟨w.heap.size, 0, none⟩) (by show w.heap.size < w.heap.size + 1; omega)).trans (unhide HC0)
      have d2 := ((unhide HX).cell (p := ⟨w.heap.size, 2, none⟩) (by show w.heap.size < w.heap.size + 1; omega)).trans (unhide HC2)
      by_cases c2 : x < wd - 1
      · skip
        have HR2 := hide (ownsRow_below (unhide HR) (Below.alloc1 w2 (.cells #[.int .i64 (p + 1)] 3)))
        have hsz := (unhide HX).size
        simp only [World.size_alloc] at hsz
        go_upto_region 9 with (at_builtin; refine wpList_append_lies _ rfl _ _ 24 rfl (w.heap.size + 1) 3 i0 _ 1 8 Try.underlying24 hi hz0 hz1 hz2 rfl (by decide) _ 1 _ rfl (unhide HR2) ⟨w2.heap.size, 0, none⟩ 1 1 [.int .i64 (p + 1)] rfl rfl (cell_one_new _ _ _) (by simp [Value.oneCell']) (by omega) (by unfold maxLen; omega) (by omega) (by simp; omega) _ rfl ?_; intro g4 cap4 w4 hown hgrow hat hlt4; have HWa := hide ((((Below.refl (w.heap.size + 1) w2)).alloc (by omega) (.cells #[.int .i64 (p + 1)] 3)).grown hgrow (by simp; omega) (fun g hg => ((unhide HR).lt g hg).1)); have HOW := hide hown; clear hown hgrow hat)
        replace HX := hide ((unhide HX).trans (unhide HWa))
        replace HW := hide ((unhide HW).trans ((unhide HWa).mono (by omega)))
        replace HR := HOW
        clear HOW HWa HR2 hlt4 hsz d0 d2
        have d0 := ((unhide HX).cell (p := ⟨w.heap.size, 0, none⟩) (by show w.heap.size < w.heap.size + 1; omega)).trans (unhide HC0)
        have d2 := ((unhide HX).cell (p := ⟨w.heap.size, 2, none⟩) (by show w.heap.size < w.heap.size + 1; omega)).trans (unhide HC2)
        by_cases c3 : p + wd < n
        · skip
          have HR2 := hide (ownsRow_below (unhide HR) (Below.alloc1 w4 (.cells #[.int .i64 (p + wd)] 3)))
          have hsz := (unhide HX).size
          simp only [World.size_alloc] at hsz
          go_upto_region 11 with (at_builtin; refine wpList_append_lies _ rfl _ _ 24 rfl (w.heap.size + 1) 3 i0 _ 1 8 Try.underlying24 hi hz0 hz1 hz2 rfl (by decide) _ 2 _ rfl (unhide HR2) ⟨w4.heap.size, 0, none⟩ 1 1 [.int .i64 (p + wd)] rfl rfl (cell_one_new _ _ _) (by simp [Value.oneCell']) (by omega) (by unfold maxLen; omega) (by omega) (by simp; omega) _ rfl ?_; intro g4 cap4 w5 hown hgrow hat hlt4; have HWa := hide ((((Below.refl (w.heap.size + 1) w4)).alloc (by omega) (.cells #[.int .i64 (p + wd)] 3)).grown hgrow (by simp; omega) (fun g hg => ((unhide HR).lt g hg).1)); have HOW := hide hown; clear hown hgrow hat)
          replace HX := hide ((unhide HX).trans (unhide HWa))
          replace HW := hide ((unhide HW).trans ((unhide HWa).mono (by omega)))
          replace HR := HOW
          clear HOW HWa HR2 hlt4 hsz d0 d2
          obtain ⟨a, n', cp, ev, hO⟩ := own_told1 (M := ([p - wd, p + 1, p + wd] : List Int)) (N := N) (unhide HR) (by rw [unhide EN, if_pos c0, if_neg c1, if_pos c2, if_pos c3]; rfl)
          simp only [Value.slice.injEq] at ev
          obtain ⟨rfl, rfl, rfl⟩ := ev
          have HO2 := hide hO
          clear hO HR
          go_wp2
          go_ret
          exact ⟨_, _, _, rfl, OwnSl.mono (unhide HO2) (by omega), unhide HW⟩
        · skip
          go_upto_region 11 with (fail)
          clear d0 d2
          obtain ⟨a, n', cp, ev, hO⟩ := own_told1 (M := ([p - wd, p + 1] : List Int)) (N := N) (unhide HR) (by rw [unhide EN, if_pos c0, if_neg c1, if_pos c2, if_neg c3]; rfl)
          simp only [Value.slice.injEq] at ev
          obtain ⟨rfl, rfl, rfl⟩ := ev
          have HO2 := hide hO
          clear hO HR
          go_wp2
          go_ret
          exact ⟨_, _, _, rfl, OwnSl.mono (unhide HO2) (by omega), unhide HW⟩
      · skip
        go_upto_region 9 with (fail)
        clear d0 d2
        have d0 := ((unhide HX).cell (p := ⟨w.heap.size, 0, none⟩) (by show w.heap.size < w.heap.size + 1; omega)).trans (unhide HC0)
        have d2 := ((unhide HX).cell (p := ⟨w.heap.size, 2, none⟩) (by show w.heap.size < w.heap.size + 1; omega)).trans (unhide HC2)
        by_cases c3 : p + wd < n
        · skip
          have HR2 := hide (ownsRow_below (unhide HR) (Below.alloc1 w2 (.cells #[.int .i64 (p + wd)] 3)))
          have hsz := (unhide HX).size
          simp only [World.size_alloc] at hsz
          go_upto_region 11 with (at_builtin; refine wpList_append_lies _ rfl _ _ 24 rfl (w.heap.size + 1) 3 i0 _ 1 8 Try.underlying24 hi hz0 hz1 hz2 rfl (by decide) _ 1 _ rfl (unhide HR2) ⟨w2.heap.size, 0, none⟩ 1 1 [.int .i64 (p + wd)] rfl rfl (cell_one_new _ _ _) (by simp [Value.oneCell']) (by omega) (by unfold maxLen; omega) (by omega) (by simp; omega) _ rfl ?_; intro g4 cap4 w5 hown hgrow hat hlt4; have HWa := hide ((((Below.refl (w.heap.size + 1) w2)).alloc (by omega) (.cells #[.int .i64 (p + wd)] 3)).grown hgrow (by simp; omega) (fun g hg => ((unhide HR).lt g hg).1)); have HOW := hide hown; clear hown hgrow hat)
          replace HX := hide ((unhide HX).trans (unhide HWa))
          replace HW := hide ((unhide HW).trans ((unhide HWa).mono (by omega)))
          replace HR := HOW
          clear HOW HWa HR2 hlt4 hsz d0 d2
          obtain ⟨a, n', cp, ev, hO⟩ := own_told1 (M := ([p - wd, p + wd] : List Int)) (N := N) (unhide HR) (by rw [unhide EN, if_pos c0, if_neg c1, if_neg c2, if_pos c3]; rfl)
          simp only [Value.slice.injEq] at ev
          obtain ⟨rfl, rfl, rfl⟩ := ev
          have HO2 := hide hO
          clear hO HR
          go_wp2
          go_ret
          exact ⟨_, _, _, rfl, OwnSl.mono (unhide HO2) (by omega), unhide HW⟩
        · skip
          go_upto_region 11 with (fail)
          clear d0 d2
          obtain ⟨a, n', cp, ev, hO⟩ := own_told1 (M := ([p - wd] : List Int)) (N := N) (unhide HR) (by rw [unhide EN, if_pos c0, if_neg c1, if_neg c2, if_neg c3]; rfl)
          simp only [Value.slice.injEq] at ev
          obtain ⟨rfl, rfl, rfl⟩ := ev
          have HO2 := hide hO
          clear hO HR
          go_wp2
          go_ret
          exact ⟨_, _, _, rfl, OwnSl.mono (unhide HO2) (by omega), unhide HW⟩
  · skip
    go_upto_region 5 with (fail)
    clear d0 d2
    have d0 := ((unhide HX).cell (p := ⟨w.heap.size, 0, none⟩) (by show w.heap.size < w.heap.size + 1; omega)).trans (unhide HC0)
    have d2 := ((unhide HX).cell (p := ⟨w.heap.size, 2, none⟩) (by show w.heap.size < w.heap.size + 1; omega)).trans (unhide HC2)
    by_cases c1 : 0 < x
    · skip
      have HR2 := hide (ownsRow_below (unhide HR) (Below.alloc1 w1 (.cells #[.int .i64 (p - 1)] 3)))
      have hsz := (unhide HX).size
      simp only [World.size_alloc] at hsz
      go_upto_region 7 with (at_builtin; refine wpList_append_lies _ rfl _ _ 24 rfl (w.heap.size + 1) 3 i0 _ 1 8 Try.underlying24 hi hz0 hz1 hz2 rfl (by decide) _ 0 _ rfl (unhide HR2) ⟨w1.heap.size, 0, none⟩ 1 1 [.int .i64 (p - 1)] rfl rfl (cell_one_new _ _ _) (by simp [Value.oneCell']) (by omega) (by unfold maxLen; omega) (by omega) (by simp; omega) _ rfl ?_; intro g4 cap4 w3 hown hgrow hat hlt4; have HWa := hide ((((Below.refl (w.heap.size + 1) w1)).alloc (by omega) (.cells #[.int .i64 (p - 1)] 3)).grown hgrow (by simp; omega) (fun g hg => ((unhide HR).lt g hg).1)); have HOW := hide hown; clear hown hgrow hat)
      replace HX := hide ((unhide HX).trans (unhide HWa))
      replace HW := hide ((unhide HW).trans ((unhide HWa).mono (by omega)))
      replace HR := HOW
      clear HOW HWa HR2 hlt4 hsz d0 d2
      have d0 := ((unhide HX).cell (p := ⟨w.heap.size, 0, none⟩) (by show w.heap.size < w.heap.size + 1; omega)).trans (unhide HC0)
      have d2 := ((unhide HX).cell (p := ⟨w.heap.size, 2, none⟩) (by show w.heap.size < w.heap.size + 1; omega)).trans (unhide HC2)
      by_cases c2 : x < wd - 1
      · skip
        have HR2 := hide (ownsRow_below (unhide HR) (Below.alloc1 w3 (.cells #[.int .i64 (p + 1)] 3)))
        have hsz := (unhide HX).size
        simp only [World.size_alloc] at hsz
        go_upto_region 9 with (at_builtin; refine wpList_append_lies _ rfl _ _ 24 rfl (w.heap.size + 1) 3 i0 _ 1 8 Try.underlying24 hi hz0 hz1 hz2 rfl (by decide) _ 1 _ rfl (unhide HR2) ⟨w3.heap.size, 0, none⟩ 1 1 [.int .i64 (p + 1)] rfl rfl (cell_one_new _ _ _) (by simp [Value.oneCell']) (by omega) (by unfold maxLen; omega) (by omega) (by simp; omega) _ rfl ?_; intro g4 cap4 w4 hown hgrow hat hlt4; have HWa := hide ((((Below.refl (w.heap.size + 1) w3)).alloc (by omega) (.cells #[.int .i64 (p + 1)] 3)).grown hgrow (by simp; omega) (fun g hg => ((unhide HR).lt g hg).1)); have HOW := hide hown; clear hown hgrow hat)
        replace HX := hide ((unhide HX).trans (unhide HWa))
        replace HW := hide ((unhide HW).trans ((unhide HWa).mono (by omega)))
        replace HR := HOW
        clear HOW HWa HR2 hlt4 hsz d0 d2
        have d0 := ((unhide HX).cell (p := ⟨w.heap.size, 0, none⟩) (by show w.heap.size < w.heap.size + 1; omega)).trans (unhide HC0)
        have d2 := ((unhide HX).cell (p := ⟨w.heap.size, 2, none⟩) (by show w.heap.size < w.heap.size + 1; omega)).trans (unhide HC2)
        by_cases c3 : p + wd < n
        · skip
          have HR2 := hide (ownsRow_below (unhide HR) (Below.alloc1 w4 (.cells #[.int .i64 (p + wd)] 3)))
          have hsz := (unhide HX).size
          simp only [World.size_alloc] at hsz
          go_upto_region 11 with (at_builtin; refine wpList_append_lies _ rfl _ _ 24 rfl (w.heap.size + 1) 3 i0 _ 1 8 Try.underlying24 hi hz0 hz1 hz2 rfl (by decide) _ 2 _ rfl (unhide HR2) ⟨w4.heap.size, 0, none⟩ 1 1 [.int .i64 (p + wd)] rfl rfl (cell_one_new _ _ _) (by simp [Value.oneCell']) (by omega) (by unfold maxLen; omega) (by omega) (by simp; omega) _ rfl ?_; intro g4 cap4 w5 hown hgrow hat hlt4; have HWa := hide ((((Below.refl (w.heap.size + 1) w4)).alloc (by omega) (.cells #[.int .i64 (p + wd)] 3)).grown hgrow (by simp; omega) (fun g hg => ((unhide HR).lt g hg).1)); have HOW := hide hown; clear hown hgrow hat)
          replace HX := hide ((unhide HX).trans (unhide HWa))
          replace HW := hide ((unhide HW).trans ((unhide HWa).mono (by omega)))
          replace HR := HOW
          clear HOW HWa HR2 hlt4 hsz d0 d2
          obtain ⟨a, n', cp, ev, hO⟩ := own_told1 (M := ([p - 1, p + 1, p + wd] : List Int)) (N := N) (unhide HR) (by rw [unhide EN, if_neg c0, if_pos c1, if_pos c2, if_pos c3]; rfl)
          simp only [Value.slice.injEq] at ev
          obtain ⟨rfl, rfl, rfl⟩ := ev
          have HO2 := hide hO
          clear hO HR
          go_wp2
          go_ret
          exact ⟨_, _, _, rfl, OwnSl.mono (unhide HO2) (by omega), unhide HW⟩
        · skip
          go_upto_region 11 with (fail)
          clear d0 d2
          obtain ⟨a, n', cp, ev, hO⟩ := own_told1 (M := ([p - 1, p + 1] : List Int)) (N := N) (unhide HR) (by rw [unhide EN, if_neg c0, if_pos c1, if_pos c2, if_neg c3]; rfl)
          simp only [Value.slice.injEq] at ev
          obtain ⟨rfl, rfl, rfl⟩ := ev
          have HO2 := hide hO
          clear hO HR
          go_wp2
          go_ret
          exact ⟨_, _, _, rfl, OwnSl.mono (unhide HO2) (by omega), unhide HW⟩
      · skip
        go_upto_region 9 with (fail)
        clear d0 d2
        have d0 := ((unhide HX).cell (p := ⟨w.heap.size, 0, none⟩) (by show w.heap.size < w.heap.size + 1; omega)).trans (unhide HC0)
        have d2 := ((unhide HX).cell (p := ⟨w.heap.size, 2, none⟩) (by show w.heap.size < w.heap.size + 1; omega)).trans (unhide HC2)
        by_cases c3 : p + wd < n
        · skip
          have HR2 := hide (ownsRow_below (unhide HR) (Below.alloc1 w3 (.cells #[.int .i64 (p + wd)] 3)))
          have hsz := (unhide HX).size
          simp only [World.size_alloc] at hsz
          go_upto_region 11 with (at_builtin; refine wpList_append_lies _ rfl _ _ 24 rfl (w.heap.size + 1) 3 i0 _ 1 8 Try.underlying24 hi hz0 hz1 hz2 rfl (by decide) _ 1 _ rfl (unhide HR2) ⟨w3.heap.size, 0, none⟩ 1 1 [.int .i64 (p + wd)] rfl rfl (cell_one_new _ _ _) (by simp [Value.oneCell']) (by omega) (by unfold maxLen; omega) (by omega) (by simp; omega) _ rfl ?_; intro g4 cap4 w5 hown hgrow hat hlt4; have HWa := hide ((((Below.refl (w.heap.size + 1) w3)).alloc (by omega) (.cells #[.int .i64 (p + wd)] 3)).grown hgrow (by simp; omega) (fun g hg => ((unhide HR).lt g hg).1)); have HOW := hide hown; clear hown hgrow hat)
          replace HX := hide ((unhide HX).trans (unhide HWa))
          replace HW := hide ((unhide HW).trans ((unhide HWa).mono (by omega)))
          replace HR := HOW
          clear HOW HWa HR2 hlt4 hsz d0 d2
          obtain ⟨a, n', cp, ev, hO⟩ := own_told1 (M := ([p - 1, p + wd] : List Int)) (N := N) (unhide HR) (by rw [unhide EN, if_neg c0, if_pos c1, if_neg c2, if_pos c3]; rfl)
          simp only [Value.slice.injEq] at ev
          obtain ⟨rfl, rfl, rfl⟩ := ev
          have HO2 := hide hO
          clear hO HR
          go_wp2
          go_ret
          exact ⟨_, _, _, rfl, OwnSl.mono (unhide HO2) (by omega), unhide HW⟩
        · skip
          go_upto_region 11 with (fail)
          clear d0 d2
          obtain ⟨a, n', cp, ev, hO⟩ := own_told1 (M := ([p - 1] : List Int)) (N := N) (unhide HR) (by rw [unhide EN, if_neg c0, if_pos c1, if_neg c2, if_neg c3]; rfl)
          simp only [Value.slice.injEq] at ev
          obtain ⟨rfl, rfl, rfl⟩ := ev
          have HO2 := hide hO
          clear hO HR
          go_wp2
          go_ret
          exact ⟨_, _, _, rfl, OwnSl.mono (unhide HO2) (by omega), unhide HW⟩
    · skip
      go_upto_region 7 with (fail)
      clear d0 d2
      have d0 := ((unhide HX).cell (p := ⟨w.heap.size, 0, none⟩) (by show w.heap.size < w.heap.size + 1; omega)).trans (unhide HC0)
      have d2 := ((unhide HX).cell (p := ⟨w.heap.size, 2, none⟩) (by show w.heap.size < w.heap.size + 1; omega)).trans (unhide HC2)
      by_cases c2 : x < wd - 1
      · skip
        have HR2 := hide (ownsRow_below (unhide HR) (Below.alloc1 w1 (.cells #[.int .i64 (p + 1)] 3)))
        have hsz := (unhide HX).size
        simp only [World.size_alloc] at hsz
        go_upto_region 9 with (at_builtin; refine wpList_append_lies _ rfl _ _ 24 rfl (w.heap.size + 1) 3 i0 _ 1 8 Try.underlying24 hi hz0 hz1 hz2 rfl (by decide) _ 0 _ rfl (unhide HR2) ⟨w1.heap.size, 0, none⟩ 1 1 [.int .i64 (p + 1)] rfl rfl (cell_one_new _ _ _) (by simp [Value.oneCell']) (by omega) (by unfold maxLen; omega) (by omega) (by simp; omega) _ rfl ?_; intro g4 cap4 w4 hown hgrow hat hlt4; have HWa := hide ((((Below.refl (w.heap.size + 1) w1)).alloc (by omega) (.cells #[.int .i64 (p + 1)] 3)).grown hgrow (by simp; omega) (fun g hg => ((unhide HR).lt g hg).1)); have HOW := hide hown; clear hown hgrow hat)
        replace HX := hide ((unhide HX).trans (unhide HWa))
        replace HW := hide ((unhide HW).trans ((unhide HWa).mono (by omega)))
        replace HR := HOW
        clear HOW HWa HR2 hlt4 hsz d0 d2
        have d0 := ((unhide HX).cell (p := ⟨w.heap.size, 0, none⟩) (by show w.heap.size < w.heap.size + 1; omega)).trans (unhide HC0)
        have d2 := ((unhide HX).cell (p := ⟨w.heap.size, 2, none⟩) (by show w.heap.size < w.heap.size + 1; omega)).trans (unhide HC2)
        by_cases c3 : p + wd < n
        · skip
          have HR2 := hide (ownsRow_below (unhide HR) (Below.alloc1 w4 (.cells #[.int .i64 (p + wd)] 3)))
          have hsz := (unhide HX).size
          simp only [World.size_alloc] at hsz
          go_upto_region 11 with (at_builtin; refine wpList_append_lies _ rfl _ _ 24 rfl (w.heap.size + 1) 3 i0 _ 1 8 Try.underlying24 hi hz0 hz1 hz2 rfl (by decide) _ 1 _ rfl (unhide HR2) ⟨w4.heap.size, 0, none⟩ 1 1 [.int .i64 (p + wd)] rfl rfl (cell_one_new _ _ _) (by simp [Value.oneCell']) (by omega) (by unfold maxLen; omega) (by omega) (by simp; omega) _ rfl ?_; intro g4 cap4 w5 hown hgrow hat hlt4; have HWa := hide ((((Below.refl (w.heap.size + 1) w4)).alloc (by omega) (.cells #[.int .i64 (p + wd)] 3)).grown hgrow (by simp; omega) (fun g hg => ((unhide HR).lt g hg).1)); have HOW := hide hown; clear hown hgrow hat)
          replace HX := hide ((unhide HX).trans (unhide HWa))
          replace HW := hide ((unhide HW).trans ((unhide HWa).mono (by omega)))
          replace HR := HOW
          clear HOW HWa HR2 hlt4 hsz d0 d2
          obtain ⟨a, n', cp, ev, hO⟩ := own_told1 (M := ([p + 1, p + wd] : List Int)) (N := N) (unhide HR) (by rw [unhide EN, if_neg c0, if_neg c1, if_pos c2, if_pos c3]; rfl)
          simp only [Value.slice.injEq] at ev
          obtain ⟨rfl, rfl, rfl⟩ := ev
          have HO2 := hide hO
          clear hO HR
          go_wp2
          go_ret
          exact ⟨_, _, _, rfl, OwnSl.mono (unhide HO2) (by omega), unhide HW⟩
        · skip
          go_upto_region 11 with (fail)
          clear d0 d2
          obtain ⟨a, n', cp, ev, hO⟩ := own_told1 (M := ([p + 1] : List Int)) (N := N) (unhide HR) (by rw [unhide EN, if_neg c0, if_neg c1, if_pos c2, if_neg c3]; rfl)
          simp only [Value.slice.injEq] at ev
          obtain ⟨rfl, rfl, rfl⟩ := ev
          have HO2 := hide hO
          clear hO HR
          go_wp2
          go_ret
          exact ⟨_, _, _, rfl, OwnSl.mono (unhide HO2) (by omega), unhide HW⟩
      · skip
        go_upto_region 9 with (fail)
        clear d0 d2
        have d0 := ((unhide HX).cell (p := ⟨w.heap.size, 0, none⟩) (by show w.heap.size < w.heap.size + 1; omega)).trans (unhide HC0)
        have d2 := ((unhide HX).cell (p := ⟨w.heap.size, 2, none⟩) (by show w.heap.size < w.heap.size + 1; omega)).trans (unhide HC2)
        by_cases c3 : p + wd < n
        · skip
          have HR2 := hide (ownsRow_below (unhide HR) (Below.alloc1 w1 (.cells #[.int .i64 (p + wd)] 3)))
          have hsz := (unhide HX).size
          simp only [World.size_alloc] at hsz
          go_upto_region 11 with (at_builtin; refine wpList_append_lies _ rfl _ _ 24 rfl (w.heap.size + 1) 3 i0 _ 1 8 Try.underlying24 hi hz0 hz1 hz2 rfl (by decide) _ 0 _ rfl (unhide HR2) ⟨w1.heap.size, 0, none⟩ 1 1 [.int .i64 (p + wd)] rfl rfl (cell_one_new _ _ _) (by simp [Value.oneCell']) (by omega) (by unfold maxLen; omega) (by omega) (by simp; omega) _ rfl ?_; intro g4 cap4 w5 hown hgrow hat hlt4; have HWa := hide ((((Below.refl (w.heap.size + 1) w1)).alloc (by omega) (.cells #[.int .i64 (p + wd)] 3)).grown hgrow (by simp; omega) (fun g hg => ((unhide HR).lt g hg).1)); have HOW := hide hown; clear hown hgrow hat)
          replace HX := hide ((unhide HX).trans (unhide HWa))
          replace HW := hide ((unhide HW).trans ((unhide HWa).mono (by omega)))
          replace HR := HOW
          clear HOW HWa HR2 hlt4 hsz d0 d2
          obtain ⟨a, n', cp, ev, hO⟩ := own_told1 (M := ([p + wd] : List Int)) (N := N) (unhide HR) (by rw [unhide EN, if_neg c0, if_neg c1, if_neg c2, if_pos c3]; rfl)
          simp only [Value.slice.injEq] at ev
          obtain ⟨rfl, rfl, rfl⟩ := ev
          have HO2 := hide hO
          clear hO HR
          go_wp2
          go_ret
          exact ⟨_, _, _, rfl, OwnSl.mono (unhide HO2) (by omega), unhide HW⟩
        · skip
          go_upto_region 11 with (fail)
          clear d0 d2
          obtain ⟨a, n', cp, ev, hO⟩ := own_told1 (M := ([] : List Int)) (N := N) (unhide HR) (by rw [unhide EN, if_neg c0, if_neg c1, if_neg c2, if_neg c3]; rfl)
          simp only [Value.slice.injEq] at ev
          obtain ⟨rfl, rfl, rfl⟩ := ev
          have HO2 := hide hO
          clear hO HR
          go_wp2
          go_ret
          exact ⟨_, _, _, rfl, OwnSl.mono (unhide HO2) (by omega), unhide HW⟩

end Go.Proofs.Ytdpcacfgbjllhaa
