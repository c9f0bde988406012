/- The contract of the program's Near6. -/
import Derived.Test.YtoonbidopdflkaaImN3
import Derived.Test.YtoonbidopdflkaaImChartOk
import Derived.Test.YtoonbidopdflkaaImShoals
import Derived.Test.YtoonbidopdflkaaCpFeature
import Derived.Test.YtoonbidopdflkaaChJ
import Derived.Laws.EntriesVeiled
namespace Go.Proofs.Ytoonbidopdflkaa
open Go.RowKit

def nearTo (S : List FeatureT) (x y : Int) (n k : Nat) : List Int := ((S.take k).filter (fun f => decide (nrAt f x y < (n : Int)))).map (·.1)
theorem nearTo_succ (S : List FeatureT) (x y : Int) (n : Nat) {k : Nat} (hk : k < S.length) : nearTo S x y n (k + 1) = if decide (nrAt (S.getD k default) x y < (n : Int)) = true then nearTo S x y n k ++ [(S.getD k default).1] else nearTo S x y n k := by
  have e : S.take (k + 1) = S.take k ++ [S.getD k default] := by rw [List.take_add_one, List.getElem?_eq_getElem hk, getD_lt hk]; rfl
  unfold nearTo
  rw [e, List.filter_append, List.map_append]
  generalize S.getD k default = z
  by_cases h : decide (nrAt z x y < (n : Int)) = true
  · rw [if_pos h, List.filter_cons, if_pos h]; rfl
  · rw [if_neg h, List.filter_cons, if_neg h]; simp
theorem nearTo_len (S : List FeatureT) (x y : Int) (n k : Nat) : (nearTo S x y n k).length ≤ k := by
  unfold nearTo
  rw [List.length_map]
  exact Nat.le_trans (List.length_filter_le _ _) (by rw [List.length_take]; omega)
theorem nearTo_all (S : List FeatureT) (x y : Int) (n : Nat) : nearTo S x y n S.length = (S.filter (fun f => decide (nrAt f x y < (n : Nat)))).map (·.1) := by unfold nearTo; rw [List.take_length]
theorem OwnSl.mono' {B B' : Nat} {w : World} {v : Value} {xs : List Int} (h : OwnSl B w v xs) (hB : B' ≤ B) : OwnSl B' w v xs := by
  obtain ⟨a, cp, e, h1, h2, h3⟩ := h
  exact ⟨a, cp, e, h1, h2, fun hne => by obtain ⟨g, e1, hg, ho⟩ := h3 hne; exact ⟨g, e1, Nat.le_trans hB hg, ho⟩⟩

set_option maxRecDepth 10000 in
set_option maxHeartbeats 8000000 in
theorem implNear6_any (c : Ch) (dao : Option Addr) (dn dc : Nat) (fao : Option Addr) (fn fc : Nat) (x y far : Int) (w : World) (hD : IntsIn w (.slice dao dn dc) c.D) (hF : RFeature w (.slice fao fn fc) c.F) :
    Calls Try.prog 23 #[vChart c.wd c.hg (.slice dao dn dc) (.slice fao fn fc) c.ed, .int .i64 x, .int .i64 y, .int .i64 far] w fun e w' => ∃ a n cp, e = .returned (.slice a n cp) ∧ OwnSl w.heap.size w' (.slice a n cp) (nearOf c x y far) ∧ Below w.heap.size w w' := by
  obtain rfl : fn = c.F.length := by
    obtain ⟨_, _, e, _⟩ := hF
    simp only [Value.slice.injEq] at e
    exact e.2.1
  have HB0 := (((blks_nil w).made #[.int .i64 c.wd, .int .i64 c.hg, .slice dao dn dc, .slice fao c.F.length fc, .int .i64 c.ed] 27).made #[.int .i64 x] 3).made #[.int .i64 y] 3
  simp only [World.size_alloc] at HB0
  have HB := hide HB0
  have HC := hide (implChartOk_any c dao dn dc fao c.F.length fc _ (hD.below HB0.below) (hF.below HB0.below))
  have HF := hide hF
  have HI := hide fun V (h1 : 1 ≤ c.wd ∧ c.wd ≤ 12) (h2 : 1 ≤ c.hg ∧ c.hg ≤ 12) => isPlace_any c.wd c.hg c.ed x y (.slice dao dn dc) (.slice fao c.F.length fc) V (by omega) (by omega) (by omega) (by omega)
  obtain ⟨N, eN⟩ : ∃ N, N = nearOf c x y far := ⟨_, rfl⟩
  rw [← eN]
  have EN0 := hide eN
  clear hD hF HB0 eN
  unfold vChart at HC HI ⊢
  go_enter Try.func23, Try.ntmps23
  go_wp2_with fail
  refine (unhide HC).mono ?_
  rintro e w1 ⟨rfl, hb⟩
  replace HB := hide ((unhide HB).step hb)
  clear hb HC
  have aq := (unhide HB).at (g := w.heap.size) (vs := [.int .i64 c.wd, .int .i64 c.hg, .slice dao dn dc, .slice fao c.F.length fc, .int .i64 c.ed]) (by simp)
  have a0 := aq.cell (i := 0) rfl
  have a1 := aq.cell (i := 1) rfl
  have a2 := aq.cell (i := 2) rfl
  have a3 := aq.cell (i := 3) rfl
  have a4 := aq.cell (i := 4) rfl
  clear aq
  have xq := (unhide HB).at (g := w.heap.size + 1) (vs := [.int .i64 x]) (by simp)
  have x0 := xq.cell (i := 0) rfl
  clear xq
  have yq := (unhide HB).at (g := w.heap.size + 1 + 1) (vs := [.int .i64 y]) (by simp)
  have y0 := yq.cell (i := 0) rfl
  clear yq
  cases hok : chartB c with
  | false =>
    have EN : Hid (N = []) := by show _ = _; rw [unhide EN0, nearOf, if_neg (by unfold nearOk; rw [hok]; simp)]
    have HW := hide (unhide HB).below
    go_wp2
    go_ret
    exact ⟨none, 0, 0, rfl, by rw [unhide EN]; exact ⟨none, 0, rfl, Nat.le_refl _, Nat.zero_le _, fun h => absurd rfl h⟩, unhide HW⟩
  | true =>
  obtain ⟨hw0, hw1, hh0, hh1, hlen, hF30, -, -⟩ := chartB_head hok
  replace HI := hide fun V => unhide HI V ⟨hw0, hw1⟩ ⟨hh0, hh1⟩
  go_wp2_with fail
  refine (unhide HI _).mono ?_
  rintro e w2 ⟨rfl, hb⟩
  replace HB := hide ((unhide HB).step hb)
  clear hb HI a0 a1 a2 a3 a4 x0 y0
  have aq := (unhide HB).at (g := w.heap.size) (vs := [.int .i64 c.wd, .int .i64 c.hg, .slice dao dn dc, .slice fao c.F.length fc, .int .i64 c.ed]) (by simp)
  have a0 := aq.cell (i := 0) rfl
  have a1 := aq.cell (i := 1) rfl
  have a2 := aq.cell (i := 2) rfl
  have a3 := aq.cell (i := 3) rfl
  have a4 := aq.cell (i := 4) rfl
  clear aq
  have xq := (unhide HB).at (g := w.heap.size + 1) (vs := [.int .i64 x]) (by simp)
  have x0 := xq.cell (i := 0) rfl
  clear xq
  have yq := (unhide HB).at (g := w.heap.size + 1 + 1) (vs := [.int .i64 y]) (by simp)
  have y0 := yq.cell (i := 0) rfl
  clear yq
  cases hpl : placeB c.wd c.hg x y with
  | false =>
    have EN : Hid (N = []) := by show _ = _; rw [unhide EN0, nearOf, if_neg (by unfold nearOk; rw [hpl]; simp)]
    have HW := hide (unhide HB).below
    go_wp2
    go_ret
    exact ⟨none, 0, 0, rfl, by rw [unhide EN]; exact ⟨none, 0, rfl, Nat.le_refl _, Nat.zero_le _, fun h => absurd rfl h⟩, unhide HW⟩
  | true =>
  cases hfar : inB far 0 100 with
  | false =>
    have EN : Hid (N = []) := by show _ = _; rw [unhide EN0, nearOf, if_neg (by unfold nearOk; rw [hfar]; simp)]
    have HW := hide (unhide HB).below
    go_wp2_with (go_at_call 57; refine (within_any _ _ _ _).mono ?_; rintro e w' ⟨rfl, h9⟩; have h8 := h9.symm; subst h8; clear h9)
    go_ret
    exact ⟨none, 0, 0, rfl, by rw [unhide EN]; exact ⟨none, 0, rfl, Nat.le_refl _, Nat.zero_le _, fun h => absurd rfl h⟩, unhide HW⟩
  | true =>
  obtain ⟨hx0, hx1, hy0, hy1⟩ := place_bd hpl
  obtain ⟨hf0, hf1⟩ := inB_true hfar
  have EN : Hid (N = nearD c.F x y (far.toNat + 1)) := by show _ = _; rw [unhide EN0, nearOf, if_pos (by unfold nearOk; rw [hok, hpl, hfar]; rfl)]
  have hLb : Hid (∀ f ∈ c.F, 0 ≤ f.2.2.1 ∧ f.2.2.1 ≤ 11 ∧ 0 ≤ f.2.2.2.1 ∧ f.2.2.2.1 ≤ 11) := fun f hf => by
    obtain ⟨i, hi, rfl⟩ := List.mem_iff_getElem.1 hf
    have := feat_bd hok hi
    rwa [getD_lt hi] at this
  have HAS := hide (chart_asc hok)
  have q3 : ∀ o, (w2.alloc o).cell? ⟨w.heap.size, 3, none⟩ = some (.slice fao c.F.length fc) := fun o => wcell3 a3 (Below.alloc1 w2 o)
  have HB1 := hide ((unhide HB).made #[.func (.func 66) #[] #[.pointer (some ⟨w.heap.size + 1, 0, none⟩), .pointer (some ⟨w.heap.size + 1 + 1, 0, none⟩)]] 97)
  have HCP := hide (ownCopyFeature_any fao c.F.length fc c.F _ ((unhide HF).below (unhide HB1).below) (by omega))
  clear HB HF a0 a1 a2 a4 hok hpl hlen
  go_wp2_with (go_at_call 57; refine (within_any _ _ _ _).mono ?_; rintro e w' ⟨rfl, h9⟩; have h8 := h9.symm; subst h8; clear h9)
  refine (unhide HCP).mono ?_
  rintro e w3 ⟨rfl, hO, hb⟩
  obtain ⟨W0, e0⟩ : ∃ z, z = w2.alloc (.cells #[.func (.func 66) #[] #[.pointer (some ⟨w.heap.size + 1, 0, none⟩), .pointer (some ⟨w.heap.size + 1 + 1, 0, none⟩)]] 97) := ⟨_, rfl⟩
  rw [← e0] at HB1 hO hb
  have hg3 : w.heap.size ≤ W0.heap.size := (unhide HB1).below.size
  have l0 := (unhide HB1).lt (w2.heap.size, [.func (.func 66) #[] #[.pointer (some ⟨w.heap.size + 1, 0, none⟩), .pointer (some ⟨w.heap.size + 1 + 1, 0, none⟩)]]) (by simp)
  have l1 := (unhide HB1).lt (w.heap.size + 1, [.int .i64 x]) (by simp)
  have l2 := (unhide HB1).lt (w.heap.size + 1 + 1, [.int .i64 y]) (by simp)
  dsimp only at l0 l1 l2
  have HB2 := hide (((unhide HB1).step hb).push hO hg3)
  rw [← e0]
  clear e0 hb HB1 hO HCP a3 x0 y0 q3
  generalize W0.heap.size = g at *
  generalize w2.heap.size = ga at *
  have cx := (unhide HB2).at (g := w.heap.size + 1) (vs := [.int .i64 x]) (by simp)
  have cy := (unhide HB2).at (g := w.heap.size + 1 + 1) (vs := [.int .i64 y]) (by simp)
  have ca := (unhide HB2).at (g := ga) (vs := [.func (.func 66) #[] #[.pointer (some ⟨w.heap.size + 1, 0, none⟩), .pointer (some ⟨w.heap.size + 1 + 1, 0, none⟩)]]) (by simp)
  have co := (unhide HB2).at (g := g) (vs := recCells 5 eFeature c.F) (by simp)
  have hSo := sortNear_any c.F (unhide hLb) hF30 x y ⟨hx0, by omega⟩ ⟨hy0, by omega⟩ (w.heap.size + 1) (w.heap.size + 1 + 1) ga g c.F.length w3 co (cx.cell (i := 0) rfl) (cy.cell (i := 0) rfl) (ca.cell (i := 0) rfl) (by omega) (by omega) (by omega)
  have HSo := hide hSo
  clear hSo cx cy ca co
  go_wp2_with fail
  refine (unhide HSo).mono ?_
  rintro e w4 ⟨rfl, S, hSp, hSs, hSo2, hK⟩
  have HB3 := hide (((unhide HB2).kept (L' := [(ga, [.func (.func 66) #[] #[.pointer (some ⟨w.heap.size + 1, 0, none⟩), .pointer (some ⟨w.heap.size + 1 + 1, 0, none⟩)]]), (w.heap.size + 1, [.int .i64 x]), (w.heap.size + 1 + 1, [.int .i64 y])]) hK (fun b e => by rw [e]; exact hg3) (fun p hp => by simp only [List.mem_cons, List.not_mem_nil, or_false] at hp; rcases hp with rfl | rfl | rfl <;> refine ⟨by simp, ?_⟩ <;> dsimp only <;> omega)).push hSo2 hg3)
  have hSl : S.length = c.F.length := hSp.length_eq
  have HSb : Hid (∀ f ∈ S, 0 ≤ f.2.2.1 ∧ f.2.2.1 ≤ 11 ∧ 0 ≤ f.2.2.2.1 ∧ f.2.2.2.1 ≤ 11) := fun f hf => unhide hLb f (hSp.subset hf)
  have HEN : Hid ((S.filter (fun f => decide (nrAt f x y < (far.toNat + 1 : Nat)))).map (·.1) = N) := by
    show _ = _
    rw [unhide EN]
    exact near_sorted c.F S x y (far.toNat + 1) (unhide HAS) hSp hSs
  clear hSp hSs hSo2 hK HSo HB2 EN0 EN HAS hLb hfar
  rw [← hSl]
  generalize c.F.length = fl at *
  subst hSl
  have hsz4 := (unhide HB3).below.size
  have HLT : Hid (∀ p ∈ ([(g, recCells 5 eFeature S), (ga, [.func (.func 66) #[] #[.pointer (some ⟨w.heap.size + 1, 0, none⟩), .pointer (some ⟨w.heap.size + 1 + 1, 0, none⟩)]]), (w.heap.size + 1, [.int .i64 x]), (w.heap.size + 1 + 1, [.int .i64 y])] : List (Nat × List Value)), p.1 < w4.heap.size) := (unhide HB3).lt
  have HR0 : Hid (w4.ownsRow w4.heap.size 3 1 (.slice none 0 0) (nearTo S x y (far.toNat + 1) 0).length (ints (nearTo S x y (far.toNat + 1) 0))) := ⟨rfl, Or.inl ⟨rfl, rfl⟩⟩
  obtain ⟨B, eB⟩ : ∃ B, B = w4.heap.size := ⟨_, rfl⟩
  have hBw : B ≤ w4.heap.size := by omega
  rw [← eB] at HR0 HLT hsz4
  clear eB
  obtain ⟨i0, hi, hz0, hz1, hz2⟩ := info_parts Try.infoInt6
  go_wp2
  go_loopg [11, 38] S.length (fun gm ov i wr => ∃ k : Nat, k ≤ S.length ∧ gm = S.length - k ∧ i = .int .i64 k ∧ B ≤ wr.heap.size ∧ wr.ownsRow B 3 1 ov (nearTo S x y (far.toNat + 1) k).length (ints (nearTo S x y (far.toNat + 1) k)) ∧ Hid (Blks w wr [(g, recCells 5 eFeature S), (ga, [.func (.func 66) #[] #[.pointer (some ⟨w.heap.size + 1, 0, none⟩), .pointer (some ⟨w.heap.size + 1 + 1, 0, none⟩)]]), (w.heap.size + 1, [.int .i64 x]), (w.heap.size + 1 + 1, [.int .i64 y])]))
  case atStart => exact ⟨0, Nat.zero_le _, rfl, rfl, hBw, unhide HR0, HB3⟩
  case round =>
    clear HR0 HB3 hBw
    obtain ⟨k, hk, rfl, rfl, hBr, hR, HB⟩ := hrel
    have HR := hide hR
    clear hR
    by_cases hkn : k < S.length
    · have hki : (k : Int) < S.length := by omega
      have hro := OwnV.recsIn ((unhide HB).at (g := g) (vs := recCells 5 eFeature S) (by simp)) (Nat.le_refl _) (by unfold maxLen; omega)
      obtain ⟨aq, cq, eq, _, _, hcq⟩ := hro
      simp only [Value.slice.injEq] at eq
      obtain ⟨rfl, -, rfl⟩ := eq
      obtain ⟨b, o, f0, f1, f2, f3, f4, e', hc0, hc1, hc2, hc3, hc4, EF⟩ := recFeatureAt hcq hkn
      simp only [Option.some.injEq, Addr.mk.injEq, and_true] at e'
      obtain ⟨rfl, rfl⟩ := e'
      simp only [Nat.zero_add] at hc0 hc1 hc2 hc3 hc4
      have hfb := unhide HSb (S.getD k default) (by rw [getD_lt hkn]; exact List.getElem_mem _)
      rw [unhide EF] at hfb
      obtain ⟨p0, p1, p2, p3⟩ := hfb
      dsimp only at p0 p1 p2 p3
      have ES := hide (nearTo_succ S x y (far.toNat + 1) hkn)
      rw [unhide EF] at ES
      have hLk := nearTo_len S x y (far.toNat + 1) k
      obtain ⟨M, eM⟩ : ∃ M, M = nearTo S x y (far.toNat + 1) k := ⟨_, rfl⟩
      rw [← eM] at HR ES hLk
      have AL := Below.alloc1 wr (.cells #[.int .i64 f0, .int .i64 f1, .int .i64 f2, .int .i64 f3, .string f4] 95)
      have HBx := hide (ownV_alloc wr #[.int .i64 f0, .int .i64 f1, .int .i64 f2, .int .i64 f3, .string f4] 95)
      have HBa := hide ((unhide HB).step AL)
      have HRa := hide (ownsRow_below (unhide HR) AL)
      have qa : ∀ o, (wr.alloc o).cell? ⟨ga, 0, none⟩ = some (.func (.func 66) #[] #[.pointer (some ⟨w.heap.size + 1, 0, none⟩), .pointer (some ⟨w.heap.size + 1 + 1, 0, none⟩)]) := fun o => wcell3 (((unhide HB).at (g := ga) (vs := [.func (.func 66) #[] #[.pointer (some ⟨w.heap.size + 1, 0, none⟩), .pointer (some ⟨w.heap.size + 1 + 1, 0, none⟩)]]) (by simp)).cell (i := 0) rfl) (Below.alloc1 wr o)
      have HAW := hide (away_any f0 f1 f2 f3 f4 x y (w.heap.size + 1) (w.heap.size + 1 + 1) _ ⟨p0, p1⟩ ⟨p2, p3⟩ ⟨hx0, by omega⟩ ⟨hy0, by omega⟩ (((unhide HBa).at (g := w.heap.size + 1) (vs := [.int .i64 x]) (by simp)).cell (i := 0) rfl) (((unhide HBa).at (g := w.heap.size + 1 + 1) (vs := [.int .i64 y]) (by simp)).cell (i := 0) rfl))
      unfold vFeature at HAW
      have hV : B ≤ (wr.alloc (.cells #[.int .i64 f0, .int .i64 f1, .int .i64 f2, .int .i64 f3, .string f4] 95)).heap.size := by simp; omega
      clear eM AL hcq EF HB HR
      obtain ⟨t, et⟩ : ∃ t, t = nrAt (f0, f1, f2, f3, f4) x y := ⟨_, rfl⟩
      rw [← et] at HAW ES
      clear et
      go_wp2_with fail
      obtain ⟨V0, e0⟩ : ∃ z, z = wr.alloc (.cells #[.int .i64 f0, .int .i64 f1, .int .i64 f2, .int .i64 f3, .string f4] 95) := ⟨_, rfl⟩
      rw [← e0] at HBx HBa HRa HAW hV ⊢
      clear e0 hc0 hc1 hc2 hc3 hc4 qa
      refine (unhide HAW).mono ?_
      rintro e V1 ⟨rfl, hbd⟩
      have HBb := hide ((unhide HBa).step hbd.below)
      have HRb := hide (ownsRow_below (unhide HRa) hbd.below)
      have c0 := ((unhide HBx).step hbd.below).cell (i := 0) rfl
      have hV1 : B ≤ V1.heap.size := Nat.le_trans hV hbd.below.size
      clear hbd HBa HRa HAW HBx
      generalize wr.heap.size = gf at *
      by_cases htf : t ≤ far
      · rw [decide_eq_true (show t < ((far.toNat + 1 : Nat) : Int) by omega), if_pos rfl] at ES
        have HR2 := hide (ownsRow_below (unhide HRb) (Below.alloc1 V1 (.cells #[.int .i64 f0] 3)))
        go_wp2_with (at_builtin; refine wpList_append_lies _ rfl _ _ 24 rfl B 3 i0 _ 1 8 Try.underlying24 hi hz0 hz1 hz2 rfl (by decide) _ M.length _ rfl (unhide HR2) ⟨V1.heap.size, 0, none⟩ 1 1 [.int .i64 f0] rfl rfl (cell_one_new _ _ _) (by simp [Value.oneCell']) (by omega) (by unfold maxLen; omega) (by omega) (by simp; omega) _ rfl ?_; intro g4 cap4 wa hown hgrow hat hlt4; have HWa := hide ((((Below.refl B V1)).alloc (by omega) (.cells #[.int .i64 f0] 3)).grown hgrow (by simp; omega) (fun g hg => ((unhide HRb).lt g hg).1)); have HOW := hide hown; clear hown hgrow hat)
        go_roundg (S.length - (k + 1))
        case measure => omega
        case rel =>
          have hWa := unhide HWa
          refine ⟨k + 1, by omega, rfl, by go_num, Nat.le_trans hV1 hWa.size, ?_, ?_⟩
          · rw [unhide ES, show ints (M ++ [f0]) = ints M ++ [.int .i64 f0] by simp [ints], List.length_append]
            exact unhide HOW
          · exact (unhide HBb).kept (T := fun b => B ≤ b) ⟨hWa.os, hWa.tape, hWa.output, hWa.size, fun q hq hn => hWa.block q (by omega)⟩ (fun b hb => Nat.le_trans hsz4 hb) (fun p hp => ⟨hp, by have := unhide HLT p hp; omega⟩)
      · rw [decide_eq_false (show ¬ t < ((far.toNat + 1 : Nat) : Int) by omega)] at ES
        simp only [Bool.false_eq_true, if_false] at ES
        go_wp2
        go_roundg (S.length - (k + 1))
        case measure => omega
        case rel => exact ⟨k + 1, by omega, rfl, by go_num, hV1, by rw [unhide ES]; exact unhide HRb, HBb⟩
    · have hkk : k = S.length := by omega
      have hki : ¬ (k : Int) < S.length := by omega
      obtain ⟨a, n, cp, ev, hO⟩ := own_told0 (unhide HR) (show nearTo S x y (far.toNat + 1) k = N by rw [hkk, nearTo_all, unhide HEN])
      subst ev
      have HO2 := hide (OwnSl.mono' hO hsz4)
      have HW := hide (unhide HB).below
      clear hO HR hkk
      go_wp2
      go_ret
      exact ⟨_, _, _, rfl, unhide HO2, unhide HW⟩

end Go.Proofs.Ytoonbidopdflkaa
