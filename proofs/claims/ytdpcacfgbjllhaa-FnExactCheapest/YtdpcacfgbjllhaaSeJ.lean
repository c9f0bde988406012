/- Contract of the specification's Cheapest. Written by wip/mkcheap.py. -/
import Derived.Test.YtdpcacfgbjllhaaSeH
import Derived.Test.YtdpcacfgbjllhaaOwC
import Derived.Deep.DeepCutAuto
import Derived.Deep.RegionHeld3
namespace Go.Proofs.Ytdpcacfgbjllhaa
open Go.RowKit

/-- What Cheapest tells: one list alone (prov_one). -/
def CheapAns (s : Se) (x : Int) (M : List Int) (b : Bool) : Prop :=
  ((seaB s && onB s x) = true ∧ b = true ∧ M.length = s.D.length ∧ ((costAt s x = 0 ∧ M = List.replicate s.D.length (-1)) ∨ (costAt s x ≠ 0 ∧ provesB s x M = true))) ∨ ((seaB s && onB s x) = false ∧ b = false ∧ M = [])
def CheapPost (s : Se) (x : Int) (w w' : World) (e : Ending) : Prop := ∃ M b a n cp, CheapAns s x M b ∧ e = .returned (.tuple #[.slice a n cp, .bool b]) ∧ OwnSl w.heap.size w' (.slice a n cp) M ∧ Below w.heap.size w w'
theorem cheapPost_mk {s : Se} {x : Int} {w w' : World} {M : List Int} {b : Bool} {a : Option Addr} {n cp : Nat} (h : CheapAns s x M b) (ho : OwnSl w.heap.size w' (.slice a n cp) M) (hb : Below w.heap.size w w') : CheapPost s x w w' (.returned (.tuple #[.slice a n cp, .bool b])) := ⟨M, b, a, n, cp, h, rfl, ho, hb⟩
theorem cheap_one {s : Se} {x : Int} {M N : List Int} {b c : Bool} (h : CheapAns s x M b) (h' : CheapAns s x N c) : M = N ∧ b = c := by
  rcases h with ⟨h1, h2, h3, h4⟩ | ⟨h1, h2, h3⟩ <;> rcases h' with ⟨k1, k2, k3, k4⟩ | ⟨k1, k2, k3⟩
  · refine ⟨?_, by rw [h2, k2]⟩
    rcases h4 with ⟨a1, a2⟩ | ⟨a1, a2⟩ <;> rcases k4 with ⟨c1, c2⟩ | ⟨c1, c2⟩
    · rw [a2, c2]
    · exact absurd a1 c1
    · exact absurd c1 a1
    · obtain ⟨xi, rfl⟩ : ∃ n : Nat, x = (n : Int) := by
        rw [Bool.and_eq_true] at h1
        have := h1.2
        unfold onB at this
        exact ⟨x.toNat, by have := inB_true this; omega⟩
      exact prov_one (proves_prov a2) (proves_prov c2)
  · rw [h1] at k1; cases k1
  · rw [h1] at k1; cases k1
  · exact ⟨by rw [h3, k3], by rw [h2, k2]⟩

theorem Try.infoInt8 : (Try.prog.info? 3).map (fun i => (i.zero, i.size, i.bytes)) = some (some (.int .i64 0), 1, 8) := by kernel_rfl
theorem ints_made (n : Nat) : (madeCells #[Value.int .i64 0] n).toList = ints (List.replicate n 0) := by
  unfold madeCells ints
  apply List.ext_getElem?
  intro i
  by_cases h : i < n
  · simp [h, Nat.mod_one]
  · simp [h]
theorem ints_setS (M : List Int) (p : Nat) (v : Int) : (ints M).set p (.int .i64 v) = ints (M.set p v) := by
  unfold ints
  rw [List.map_set]
theorem ints_at {M : List Int} {p : Nat} (h : p < M.length) : (ints M)[p]? = some (.int .i64 (M.getD p 0)) := by
  rw [getD_lt h]
  simp [ints, h]
/-- The box of the sea and the row of costs. -/
structure QI (w W : World) (box : List Value) (g : Nat) (M : List Int) : Prop where
  below : Below w.heap.size w W
  ob : OwnV W w.heap.size box
  oo : OwnV W g (ints M)
  h1 : w.heap.size < g
theorem QI.step {w W W' : World} {box : List Value} {g : Nat} {M : List Int} (h : QI w W box g M) (hb : Below W.heap.size W W') : QI w W' box g M := ⟨Below.step h.below hb, h.ob.step hb, h.oo.step hb, h.h1⟩
theorem QI.put {w W : World} {box : List Value} {g : Nat} {M : List Int} (h : QI w W box g M) {p : Nat} (hp : p < M.length) (v : Int) : QI w (W.setCell ⟨g, p, none⟩ (.int .i64 v)) box g (M.set p v) :=
  ⟨h.below.setCell (p := ⟨g, p, none⟩) (Nat.le_of_lt h.h1) _, h.ob.other (a := ⟨g, p, none⟩) (by show w.heap.size ≠ g; have := h.h1; omega) _, by rw [← ints_setS]; exact h.oo.set p _ (by simpa [ints] using hp), h.h1⟩
theorem QI.own {w W : World} {box : List Value} {g : Nat} {M : List Int} (h : QI w W box g M) (hM : M.length ≤ 144) : OwnSl w.heap.size W (.slice (some ⟨g, 0, none⟩) M.length M.length) M :=
  ⟨some ⟨g, 0, none⟩, M.length, rfl, Nat.le_refl _, by unfold maxLen; omega, fun _ => ⟨g, rfl, Nat.le_of_lt h.h1, h.oo⟩⟩
def St (s : Se) (M0 M : List Int) (a : Bool) (Dn : Nat → Nat → Prop) : Prop := (a = true ∧ mu M < mu M0) ∨ (a = false ∧ M = M0 ∧ ∀ p q, p < s.D.length → q < s.D.length → Dn p q → Rest s M p q)
theorem St.grow {s : Se} {M0 M : List Int} {a : Bool} {Dn Dn' : Nat → Nat → Prop} (h : St s M0 M a Dn) (hr : ∀ p q, p < s.D.length → q < s.D.length → Dn' p q → Dn p q ∨ Rest s M p q) : St s M0 M a Dn' := by
  rcases h with h | ⟨h1, h2, h3⟩
  · exact Or.inl h
  · exact Or.inr ⟨h1, h2, fun p q hp hq hd => by
      rcases hr p q hp hq hd with h | h
      · exact h3 p q hp hq h
      · exact h⟩
theorem St.put {s : Se} {M0 M M' : List Int} {a : Bool} {Dn Dn' : Nat → Nat → Prop} (h : St s M0 M a Dn) (hl : mu M' < mu M) : St s M0 M' true Dn' := by
  rcases h with h | ⟨h1, h2, h3⟩
  · exact Or.inl ⟨rfl, by omega⟩
  · exact Or.inl ⟨rfl, by rw [← h2]; exact hl⟩
theorem rep_set {n k : Nat} (h : k < n) : ((List.replicate k (-1 : Int)) ++ List.replicate (n - k) 0).set k (-1) = List.replicate (k + 1) (-1) ++ List.replicate (n - (k + 1)) 0 := by
  rw [List.set_append, if_neg (by simp)]
  simp only [List.length_replicate, Nat.sub_self]
  rw [show n - k = (n - (k + 1)) + 1 by omega, List.replicate_succ, List.set_cons_zero, List.replicate_succ', List.append_assoc]
  rfl

set_option maxRecDepth 10000 in
set_option maxHeartbeats 32000000 in
theorem specCheapest_any (s : Se) (dao : Option Addr) (dn dc : Nat) (fao : Option Addr) (fn fc : Nat) (x : Int) (w : World) (hD : IntsIn w (.slice dao dn dc) s.D) (hF : RClosed w (.slice fao fn fc) s.F) :
    Calls Try.prog 18 #[vSea s.wd s.hg (.slice dao dn dc) (.slice fao fn fc), .int .i64 x] w fun e w' => CheapPost s x w w' e := by
  have A := Below.alloc1 w (.cells #[.int .i64 s.wd, .int .i64 s.hg, .slice dao dn dc, .slice fao fn fc] 27)
  have O := ownV_alloc w #[.int .i64 s.wd, .int .i64 s.hg, .slice dao dn dc, .slice fao fn fc] 27
  have HOK := hide (specSeaOk_any s dao dn dc fao fn fc _ (hD.below A) (hF.below A))
  obtain ⟨dao', dc', eD, hdl, hdm, hdc⟩ := hD
  simp only [Value.slice.injEq] at eD
  obtain ⟨rfl, rfl, rfl⟩ := eD
  have HDC := hide hdc
  have HW := hide A
  have HO := hide O
  clear A O hdc hF
  unfold vSea at HOK ⊢
  cases h1 : seaB s with
  | false =>
    have HC : Hid (CheapAns s x [] false) := Or.inr ⟨by rw [h1]; rfl, rfl, rfl⟩
    rw [h1] at HOK
    go_enter Try.func18, Try.ntmps18
    go_wp2_with fail
    refine (unhide HOK).mono ?_
    rintro e w1 ⟨rfl, hb⟩
    replace HW := hide (Below.step (unhide HW) hb)
    clear hb HOK
    go_wp2
    refine bodyPost_ret (v := .tuple #[.slice (some ⟨w1.heap.size, 0, none⟩) 0 0, .bool false]) (by simp [results, Try.results18, go_sem]) rfl (cheapPost_mk (unhide HC) ⟨some ⟨w1.heap.size, 0, none⟩, 0, rfl, Nat.le_refl _, Nat.zero_le _, fun h => absurd rfl h⟩ (Below.step (unhide HW) (Below.alloc1 _ _)))
  | true =>
  rw [h1] at HOK
  have hn := seaB_n h1
  have HPL := hide fun V => l7Place_any s x (.slice dao s.D.length dc) (.slice fao fn fc) V hn
  unfold vSea at HPL
  cases h2 : onB s x with
  | false =>
    have HC : Hid (CheapAns s x [] false) := Or.inr ⟨by rw [h1, h2]; rfl, rfl, rfl⟩
    rw [h2] at HPL
    go_enter Try.func18, Try.ntmps18
    go_wp2_with fail
    refine (unhide HOK).mono ?_
    rintro e w1 ⟨rfl, hb⟩
    replace HW := hide (Below.step (unhide HW) hb)
    replace HO := hide (OwnV.step (unhide HO) hb)
    have b0 := (unhide HO).cell (i := 0) rfl
    have b1 := (unhide HO).cell (i := 1) rfl
    have b2 := (unhide HO).cell (i := 2) rfl
    have b3 := (unhide HO).cell (i := 3) rfl
    clear hb HOK
    go_wp2_with fail
    refine (unhide HPL _).mono ?_
    rintro e w2 ⟨rfl, hb⟩
    replace HW := hide (Below.step (unhide HW) hb)
    clear hb
    go_wp2
    refine bodyPost_ret (v := .tuple #[.slice (some ⟨w2.heap.size, 0, none⟩) 0 0, .bool false]) (by simp [results, Try.results18, go_sem]) rfl (cheapPost_mk (unhide HC) ⟨some ⟨w2.heap.size, 0, none⟩, 0, rfl, Nat.le_refl _, Nat.zero_le _, fun h => absurd rfl h⟩ (Below.step (unhide HW) (Below.alloc1 _ _)))
  | true =>
  rw [h2] at HPL
  obtain ⟨xi, rfl, hxi⟩ : ∃ q : Nat, x = (q : Int) ∧ q < s.D.length := by
    have h3 := h2
    unfold onB at h3
    obtain ⟨a, b⟩ := inB_true h3
    exact ⟨x.toNat, by omega, by omega⟩
  obtain ⟨bd, od, rfl, hcd⟩ := unhide HDC xi hxi
  have e1 := ((unhide HW).cell (lt_of_cell hcd)).trans hcd
  have hxiI : (xi : Int) < s.D.length := by omega
  have hle := hn.le
  have hleI : (s.D.length : Int) ≤ 144 := by omega
  obtain ⟨dx, edx⟩ : ∃ c, s.D.getD xi 0 = c := ⟨_, rfl⟩
  rw [edx] at e1
  have EDX := hide edx
  have HN := hide hn
  have H1 := hide h1
  have H12 : Hid ((seaB s && onB s (xi : Int)) = true) := by show _ = _; rw [h1, h2]; rfl
  have hmk := run_make_recs (P := Try.prog) 24 3 _ 1 8 Try.underlying24 Try.infoInt8 .i64 .i64 s.D.length (by omega) (by omega)
  clear hcd edx hn h1 h2
  go_enter Try.func18, Try.ntmps18
  go_wp2_with fail
  refine (unhide HOK).mono ?_
  rintro e w1 ⟨rfl, hb⟩
  have e2 := (hb.cell (lt_of_cell e1)).trans e1
  replace HW := hide (Below.step (unhide HW) hb)
  replace HO := hide (OwnV.step (unhide HO) hb)
  have b0 := (unhide HO).cell (i := 0) rfl
  have b1 := (unhide HO).cell (i := 1) rfl
  have b2 := (unhide HO).cell (i := 2) rfl
  have b3 := (unhide HO).cell (i := 3) rfl
  clear hb HOK
  go_wp2_with fail
  refine (unhide HPL _).mono ?_
  rintro e w2 ⟨rfl, hb⟩
  have e3 := (hb.cell (lt_of_cell e2)).trans e2
  replace HW := hide (Below.step (unhide HW) hb)
  replace HO := hide (OwnV.step (unhide HO) hb)
  have f2 := (unhide HO).cell (i := 2) rfl
  clear hb HPL b0 b1 b2 b3 e1 e2
  go_upto_region 4 with (fail)
  have hgb : w.heap.size < w2.heap.size := (unhide HO).lt
  have HQ : Hid (QI w (w2.alloc (.cells (madeCells #[.int .i64 0] s.D.length) 3)) [.int .i64 s.wd, .int .i64 s.hg, .slice (some ⟨bd, od, none⟩) s.D.length dc, .slice fao fn fc] w2.heap.size (List.replicate 0 (-1) ++ List.replicate (s.D.length - 0) 0)) := ⟨Below.step (unhide HW) (Below.alloc1 _ _), (unhide HO).alloc _, by rw [show (List.replicate 0 (-1 : Int) ++ List.replicate (s.D.length - 0) 0) = List.replicate s.D.length 0 by simp, ← ints_made]; exact ownV_alloc _ _ _, hgb⟩
  have e5 := ((Below.alloc1 w2 (.cells (madeCells #[.int .i64 0] s.D.length) 3)).cell (lt_of_cell e3)).trans e3
  obtain ⟨W0, eW⟩ : ∃ z, z = w2.alloc (.cells (madeCells #[.int .i64 0] s.D.length) 3) := ⟨_, rfl⟩
  rw [← eW] at HQ e5 ⊢
  clear eW e3 f2 HO HW hmk
  generalize w2.heap.size = gh at *
  go_wp2
  go_loopg [7] s.D.length (fun g i wr => ∃ k : Nat, k ≤ s.D.length ∧ g = s.D.length - k ∧ i = .int .i64 k ∧ Hid (QI w wr [.int .i64 s.wd, .int .i64 s.hg, .slice (some ⟨bd, od, none⟩) s.D.length dc, .slice fao fn fc] gh (List.replicate k (-1) ++ List.replicate (s.D.length - k) 0)))
  case atStart => exact ⟨0, Nat.zero_le _, rfl, rfl, HQ⟩
  case round =>
    clear HQ e5
    obtain ⟨k, hk, rfl, rfl, HQ⟩ := hrel
    by_cases hkn : k < s.D.length
    case pos =>
      have hki : (k : Int) < s.D.length := by omega
      have hlen : k < (List.replicate k (-1 : Int) ++ List.replicate (s.D.length - k) 0).length := by simp; omega
      have ck := (unhide HQ).oo.cell (i := k) (ints_at hlen)
      have fz := (unhide HQ).oo.frozen
      have HQ1 := (unhide HQ).put hlen (-1)
      rw [rep_set hkn] at HQ1
      have HQ2 := hide HQ1
      clear HQ1 HQ hlen
      go_wp2
      go_roundg (s.D.length - (k + 1))
      case measure => omega
      case rel => exact ⟨k + 1, by omega, rfl, by go_num, HQ2⟩
    have hkk : k = s.D.length := by omega
    subst hkk
    have hki : ¬ (s.D.length : Int) < s.D.length := by omega
    rw [show (List.replicate s.D.length (-1 : Int) ++ List.replicate (s.D.length - s.D.length) 0) = List.replicate s.D.length (-1) by simp] at HQ
    obtain ⟨bd', od', ed, hcd⟩ := unhide HDC xi hxi
    simp only [Option.some.injEq, Addr.mk.injEq, and_true] at ed
    obtain ⟨rfl, rfl⟩ := ed
    have e6 := wcell3 hcd (unhide HQ).below
    rw [unhide EDX] at e6
    have g2 := (unhide HQ).ob.cell (i := 2) rfl
    clear hcd
    by_cases c0 : dx = 0
    · have HC : Hid (CheapAns s (xi : Int) (List.replicate s.D.length (-1)) true) := Or.inl ⟨unhide H12, rfl, by simp, Or.inl ⟨by show s.D.getD xi 0 = 0; rw [unhide EDX]; exact c0, rfl⟩⟩
      have HOW := hide ((unhide HQ).own (by simp; exact hle))
      rw [List.length_replicate] at HOW
      have d0 : (dx == 0) = true := by simp; exact c0
      subst c0
      go_wp2
      refine bodyPost_ret (v := .tuple #[.slice (some ⟨gh, 0, none⟩) s.D.length s.D.length, .bool true]) (by simp [results, Try.results18, go_sem]) rfl (cheapPost_mk (unhide HC) (unhide HOW) (unhide HQ).below)
    have d0 : (dx == 0) = false := by simp; exact c0
    have hlen : xi < (List.replicate s.D.length (-1 : Int)).length := by simpa using hxi
    have cx := (unhide HQ).oo.cell (i := xi) (ints_at hlen)
    have fz := (unhide HQ).oo.frozen
    have HQ1 := hide ((unhide HQ).put hlen 0)
    have HBF := hide (bf_start hxi (by rw [unhide EDX]; exact c0))
    have hdxn : s.D.getD xi 0 ≠ 0 := by rw [unhide EDX]; exact c0
    have HXD := hide hdxn
    clear hlen HQ c0 hdxn
    generalize (List.replicate s.D.length (-1 : Int)).set xi 0 = M1 at *
    go_wp2
    clear cx fz e6 g2
    generalize wr = w5 at *
    go_loopg [8] (mu M1 + 1) (fun g av wr2 => ∃ M a, av = .bool a ∧ g = mu M + (if a = true then 1 else 0) ∧ Hid (QI w wr2 [.int .i64 s.wd, .int .i64 s.hg, .slice (some ⟨bd, od, none⟩) s.D.length dc, .slice fao fn fc] gh M) ∧ Hid (BF s xi M) ∧ Hid (a = false → ∀ p q, p < s.D.length → q < s.D.length → Rest s M p q))
    case atStart => exact ⟨M1, true, rfl, rfl, HQ1, HBF, fun h => by cases h⟩
    case round =>
      clear HQ1 HBF
      obtain ⟨M0, a, rfl, rfl, HQ, HBF, HR⟩ := hrel
      have hlM := (unhide HBF).len
      cases a with
      | false =>
        have HC : Hid (CheapAns s (xi : Int) M0 true) := Or.inl ⟨unhide H12, rfl, hlM, Or.inr ⟨unhide HXD, (unhide HBF).proved (unhide HN) (unhide H1) hxi (unhide HXD) (unhide HR rfl)⟩⟩
        have HOW := hide ((unhide HQ).own (by rw [hlM]; exact hle))
        rw [hlM] at HOW
        clear hlM HR HBF
        go_wp2
        refine bodyPost_ret (v := .tuple #[.slice (some ⟨gh, 0, none⟩) s.D.length s.D.length, .bool true]) (by simp [results, Try.results18, go_sem]) rfl (cheapPost_mk (unhide HC) (unhide HOW) (unhide HQ).below)
      | true =>
        have HST : Hid (St s M0 M0 false (fun p _ => p < 0)) := Or.inr ⟨rfl, rfl, fun p q _ _ h => by omega⟩
        clear HR hlM
        go_wp2
        generalize wr = w6 at *
        go_loopg [8, 9] s.D.length (fun g av i wr3 => ∃ p M a, p ≤ s.D.length ∧ g = s.D.length - p ∧ i = .int .i64 (p : Nat) ∧ av = .bool a ∧ Hid (QI w wr3 [.int .i64 s.wd, .int .i64 s.hg, .slice (some ⟨bd, od, none⟩) s.D.length dc, .slice fao fn fc] gh M) ∧ Hid (BF s xi M) ∧ Hid (St s M0 M a (fun p' _ => p' < p)))
        case atStart => exact ⟨0, M0, false, Nat.zero_le _, rfl, rfl, rfl, HQ, HBF, HST⟩
        case round =>
          clear HQ HBF HST
          obtain ⟨p, M, a, hp, rfl, rfl, rfl, HQ, HBF, HST⟩ := hrel
          by_cases hpn : p < s.D.length
          case neg =>
            have hpi : ¬ (p : Int) < s.D.length := by omega
            go_wp2
            go_roundg (mu M + (if a = true then 1 else 0))
            case measure =>
              rcases unhide HST with ⟨h1, h2⟩ | ⟨h1, h2, -⟩
              · rw [h1]; simp; omega
              · rw [h1, h2]; simp
            case rel => exact ⟨M, a, rfl, rfl, HQ, HBF, fun h p' q' hp' hq' => by
              rcases unhide HST with ⟨h1, -⟩ | ⟨-, -, h3⟩
              · rw [h1] at h; cases h
              · exact h3 p' q' hp' hq' (by omega)⟩
          have hpi : (p : Int) < s.D.length := by omega
          replace HST : Hid (St s M0 M a (fun p' q' => p' < p ∨ (p' = p ∧ q' < 0))) := (unhide HST).grow (fun p' q' _ _ h => by left; omega)
          go_wp2
          generalize wr = w7 at *
          go_loopg [8, 10] s.D.length (fun g av i wr4 => ∃ q M a, q ≤ s.D.length ∧ g = s.D.length - q ∧ i = .int .i64 (q : Nat) ∧ av = .bool a ∧ Hid (QI w wr4 [.int .i64 s.wd, .int .i64 s.hg, .slice (some ⟨bd, od, none⟩) s.D.length dc, .slice fao fn fc] gh M) ∧ Hid (BF s xi M) ∧ Hid (St s M0 M a (fun p' q' => p' < p ∨ (p' = p ∧ q' < q))))
          case atStart => exact ⟨0, M, a, Nat.zero_le _, rfl, rfl, rfl, HQ, HBF, HST⟩
          case round =>
            clear HQ HBF HST M a
            obtain ⟨q, M, a, hq, rfl, rfl, rfl, HQ, HBF, HST⟩ := hrel
            obtain ⟨bd', od', ed, hcd⟩ := unhide HDC p hpn
            simp only [Option.some.injEq, Addr.mk.injEq, and_true] at ed
            obtain ⟨rfl, rfl⟩ := ed
            have eD := wcell3 hcd (unhide HQ).below
            obtain ⟨dp, edp⟩ : ∃ c, s.D.getD p 0 = c := ⟨_, rfl⟩
            have hdb := (unhide HN).cost p hpn
            rw [edp] at eD hdb
            obtain ⟨hdb0, hdb1⟩ := hdb
            have EDP := hide edp
            clear hcd edp
            have a0 := (unhide HQ).ob.cell (i := 0) rfl
            have a1 := (unhide HQ).ob.cell (i := 1) rfl
            have a2 := (unhide HQ).ob.cell (i := 2) rfl
            have a3 := (unhide HQ).ob.cell (i := 3) rfl
            by_cases hqn : q < s.D.length
            case neg =>
              have hqi : ¬ (q : Int) < s.D.length := by omega
              have HST' : Hid (St s M0 M a (fun p' _ => p' < p + 1)) := (unhide HST).grow (fun p' q' _ _ h => by left; omega)
              go_wp2
              go_roundg (s.D.length - (p + 1))
              case measure => omega
              case rel => exact ⟨p + 1, M, a, by omega, rfl, by go_num, rfl, HQ, HBF, HST'⟩
            have hqi : (q : Int) < s.D.length := by omega
            by_cases cd : dp = 0
            · have d2 : decide (0 < dp) = false := by simp; omega
              have HST' : Hid (St s M0 M a (fun p' _ => p' < p + 1)) := (unhide HST).grow (fun p' q' _ _ h => by
                by_cases e : p' = p
                · right; intro h1; rw [e, unhide EDP] at h1; omega
                · left; omega)
              subst cd
              go_wp2
              go_roundg (s.D.length - (p + 1))
              case measure => omega
              case rel => exact ⟨p + 1, M, a, by omega, rfl, by go_num, rfl, HQ, HBF, HST'⟩
            have d2 : decide (0 < dp) = true := by simp; omega
            have hdp0 : 0 < dp := by omega
            have hlM := (unhide HBF).len
            have eQ := (unhide HQ).oo.cell (i := q) (ints_at (by rw [hlM]; exact hqn))
            have eP := (unhide HQ).oo.cell (i := p) (ints_at (by rw [hlM]; exact hpn))
            obtain ⟨mq, emq⟩ : ∃ c, M.getD q 0 = c := ⟨_, rfl⟩
            obtain ⟨mp, emp⟩ : ∃ c, M.getD p 0 = c := ⟨_, rfl⟩
            have hhq := (unhide HBF).high q hqn
            have hhp := (unhide HBF).high p hpn
            have hlp := (unhide HBF).low p hpn
            have hcn := (unhide HBF).cnt_le
            rw [emq] at eQ hhq
            rw [emp] at eP hhp hlp
            have EMQ := hide emq
            have EMP := hide emp
            have hq1 : mq ≤ 144000 := by omega
            have hp1 : mp ≤ 144000 := by omega
            clear hlM emq emp hhq hhp hcn
            have p0 := fun x' : Gr wr => gr_cell a0 x'
            have p1 := fun x' : Gr wr => gr_cell a1 x'
            have p2 := fun x' : Gr wr => gr_cell a2 x'
            have p3 := fun x' : Gr wr => gr_cell a3 x'
            have rQ := fun x' : Gr wr => gr_cell eQ x'
            have rP := fun x' : Gr wr => gr_cell eP x'
            have rD := fun x' : Gr wr => gr_cell eD x'
            have gsome := gr_some wr
            have S1 := hide fun x' : Gr wr => l7Next_any s (p : Int) (q : Int) (.slice (some ⟨bd, od, none⟩) s.D.length dc) (.slice fao fn fc) x'.val (unhide HN) (by omega) hpi (by omega) hqi
            unfold vSea at S1
            by_cases c1 : 0 ≤ mq
            case neg =>
              have HREST : Hid (Rest s M p q) := fun _ h _ => by rw [unhide EMQ] at h; omega
              have d3 : decide (0 ≤ mq) = false := decide_eq_false c1
              go_wp2
              refine wp_region_grown (by kernel_rfl) (by kernel_rfl) ?_
              repeat (go_big_quiet_step (fail))
              refine wpQuiet_nil ?_
              intro w1 hw1
              obtain ⟨z', hz⟩ := hw1
              have hb1 : Below wr.heap.size wr w1 := hz ▸ z'.ok
              clear hz gsome
              go_wp2
              go_roundg (s.D.length - (q + 1))
              case measure => omega
              case rel => exact ⟨q + 1, M, a, by omega, rfl, by go_num, rfl, hide ((unhide HQ).step hb1), HBF, (unhide HST).grow (fun p' q' hp' hq' hd' => by
                by_cases e : p' = p ∧ q' = q
                · right; rw [e.1, e.2]; exact unhide HREST
                · left; omega)⟩
            have d3 : decide (0 ≤ mq) = true := decide_eq_true c1
            cases h5 : nextB s.wd (p : Int) (q : Int) with
            | false =>
              rw [h5] at S1
              have HREST : Hid (Rest s M p q) := fun _ _ h => by rw [h5] at h; cases h
              clear h5
              go_wp2
              refine wp_region_grown (by kernel_rfl) (by kernel_rfl) ?_
              repeat (go_big_quiet_step (fail))
              go_big_quiet_want
              go_big_quiet_op
              go_big_quiet_call (exact calls_grown (unhide S1 _))
              repeat (go_big_quiet_step (fail))
              refine wpQuiet_nil ?_
              intro w1 hw1
              obtain ⟨z', hz⟩ := hw1
              have hb1 : Below wr.heap.size wr w1 := hz ▸ z'.ok
              clear hz gsome
              go_wp2
              go_roundg (s.D.length - (q + 1))
              case measure => omega
              case rel => exact ⟨q + 1, M, a, by omega, rfl, by go_num, rfl, hide ((unhide HQ).step hb1), HBF, (unhide HST).grow (fun p' q' hp' hq' hd' => by
                by_cases e : p' = p ∧ q' = q
                · right; rw [e.1, e.2]; exact unhide HREST
                · left; omega)⟩
            | true =>
              rw [h5] at S1
              by_cases c2 : mp < 0
              · have d4 : decide (mp < 0) = true := decide_eq_true c2
                go_wp2
                refine wp_region_grown (by kernel_rfl) (by kernel_rfl) ?_
                repeat (go_big_quiet_step (fail))
                go_big_quiet_want
                go_big_quiet_op
                go_big_quiet_call (exact calls_grown (unhide S1 _))
                repeat (go_big_quiet_step (fail))
                refine wpQuiet_nil ?_
                intro w1 hw1
                obtain ⟨z', hz⟩ := hw1
                have hb1 : Below wr.heap.size wr w1 := hz ▸ z'.ok
                clear hz gsome
                have y2 := OwnV.cell (OwnV.step (unhide HQ).ob hb1) (i := 2) rfl
                have yQ := (hb1.cell (lt_of_cell eQ)).trans eQ
                have yD := (hb1.cell (lt_of_cell eD)).trans eD
                have yP := (hb1.cell (lt_of_cell eP)).trans eP
                have HQ1 := hide ((unhide HQ).step hb1)
                have fz := (unhide HQ1).oo.frozen
                have HQ2 := hide ((unhide HQ1).put (p := p) (by rw [(unhide HBF).len]; exact hpn) (mq + dp))
                have HPUT := hide ((unhide HBF).put (unhide HN) hpn hqn (by rw [unhide EMQ]; exact c1) (by rw [unhide EDP]; omega) h5 (by rw [unhide EMQ, unhide EMP, unhide EDP]; omega))
                rw [unhide EMQ, unhide EDP] at HPUT
                have qs : IntKind.i64.wrap (mq + dp) = mq + dp := by rw [IntKind.wrap_i64]; omega
                clear hb1 p0 p1 p2 p3 rQ rP rD S1 a0 a1 a2 a3
                go_wp2
                go_region_with (fail)
                all_goals
                  go_wp2
                  go_roundg (s.D.length - (q + 1))
                  case measure => omega
                  case rel => first | exact ⟨q + 1, M.set p (mq + dp), true, by omega, rfl, by go_num, rfl, HQ2, hide (unhide HPUT).1, (unhide HST).put (unhide HPUT).2⟩ | exact ⟨q + 1, M.set p (mq + dp), true, by omega, rfl, by go_num, rfl, hide ((unhide HQ2).step (below_drewN (Below.refl _ _) _)), hide (unhide HPUT).1, (unhide HST).put (unhide HPUT).2⟩
              have d4 : decide (mp < 0) = false := decide_eq_false c2
              have qq : IntKind.i64.wrap (mq + dp) = mq + dp := by rw [IntKind.wrap_i64]; omega
              by_cases c3 : mq + dp < mp
              · have d5 : decide (mq + dp < mp) = true := decide_eq_true c3
                go_wp2
                refine wp_region_grown (by kernel_rfl) (by kernel_rfl) ?_
                repeat (go_big_quiet_step (fail))
                go_big_quiet_want
                go_big_quiet_op
                go_big_quiet_call (exact calls_grown (unhide S1 _))
                repeat (go_big_quiet_step (fail))
                refine wpQuiet_nil ?_
                intro w1 hw1
                obtain ⟨z', hz⟩ := hw1
                have hb1 : Below wr.heap.size wr w1 := hz ▸ z'.ok
                clear hz gsome
                have y2 := OwnV.cell (OwnV.step (unhide HQ).ob hb1) (i := 2) rfl
                have yQ := (hb1.cell (lt_of_cell eQ)).trans eQ
                have yD := (hb1.cell (lt_of_cell eD)).trans eD
                have yP := (hb1.cell (lt_of_cell eP)).trans eP
                have HQ1 := hide ((unhide HQ).step hb1)
                have fz := (unhide HQ1).oo.frozen
                have HQ2 := hide ((unhide HQ1).put (p := p) (by rw [(unhide HBF).len]; exact hpn) (mq + dp))
                have HPUT := hide ((unhide HBF).put (unhide HN) hpn hqn (by rw [unhide EMQ]; exact c1) (by rw [unhide EDP]; omega) h5 (by rw [unhide EMQ, unhide EMP, unhide EDP]; omega))
                rw [unhide EMQ, unhide EDP] at HPUT
                have qs : IntKind.i64.wrap (mq + dp) = mq + dp := by rw [IntKind.wrap_i64]; omega
                clear hb1 p0 p1 p2 p3 rQ rP rD S1 a0 a1 a2 a3
                go_wp2
                go_region_with (fail)
                all_goals
                  go_wp2
                  go_roundg (s.D.length - (q + 1))
                  case measure => omega
                  case rel => first | exact ⟨q + 1, M.set p (mq + dp), true, by omega, rfl, by go_num, rfl, HQ2, hide (unhide HPUT).1, (unhide HST).put (unhide HPUT).2⟩ | exact ⟨q + 1, M.set p (mq + dp), true, by omega, rfl, by go_num, rfl, hide ((unhide HQ2).step (below_drewN (Below.refl _ _) _)), hide (unhide HPUT).1, (unhide HST).put (unhide HPUT).2⟩
              · have d5 : decide (mq + dp < mp) = false := decide_eq_false c3
                have HREST : Hid (Rest s M p q) := fun _ _ _ => by rw [unhide EMP, unhide EMQ, unhide EDP]; omega
                go_wp2
                refine wp_region_grown (by kernel_rfl) (by kernel_rfl) ?_
                repeat (go_big_quiet_step (fail))
                go_big_quiet_want
                go_big_quiet_op
                go_big_quiet_call (exact calls_grown (unhide S1 _))
                repeat (go_big_quiet_step (fail))
                refine wpQuiet_nil ?_
                intro w1 hw1
                obtain ⟨z', hz⟩ := hw1
                have hb1 : Below wr.heap.size wr w1 := hz ▸ z'.ok
                clear hz gsome
                go_wp2
                go_roundg (s.D.length - (q + 1))
                case measure => omega
                case rel => exact ⟨q + 1, M, a, by omega, rfl, by go_num, rfl, hide ((unhide HQ).step hb1), HBF, (unhide HST).grow (fun p' q' hp' hq' hd' => by
                  by_cases e : p' = p ∧ q' = q
                  · right; rw [e.1, e.2]; exact unhide HREST
                  · left; omega)⟩

end Go.Proofs.Ytdpcacfgbjllhaa
