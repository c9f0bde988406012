/- FnSection: whatever the bytes, a drawn section lies between its lowest and highest plate, its inertia is above 0, and higher plates only lift it. -/
import Derived.Test.YtliodmahbdmcbaaFsA
import Derived.Test.YtliodmahbdmcbaaSgQ
import Derived.Test.YtliodmahbdmcbaaTwoR
import Derived.Test.YtliodmahbdmcbaaAtFix
namespace Go.Proofs.Ytliodmahbdmcbaa
open Go.RowKit

theorem Try.infoPl : (Try.prog.info? 41).map (fun i => (i.zero, i.size, i.bytes)) = some (some (.agg #[.int .i64 0, .int .i64 0, .int .i64 0]), 3, 24) := by kernel_rfl

/-- A plate as FnSection draws it. -/
def drP (lo hi : Int) (p : I3) : Prop := 1 ≤ p.1 ∧ p.1 ≤ 90 ∧ 1 ≤ p.2.1 ∧ p.2.1 ≤ 9 ∧ 0 ≤ p.2.2 ∧ p.2.2 ≤ 255 ∧ lo ≤ p.2.2 ∧ p.2.2 ≤ hi

theorem upBy_snoc (u : Int) (L : List I3) (p : I3) : upBy u (L ++ [p]) = upBy u L ++ [(p.1, p.2.1, p.2.2 + u)] := by simp [upBy]

theorem drawn_ok {lo hi u : Int} {L : List I3} (h : ∀ p ∈ L, drP lo hi p) (h1 : 1 ≤ L.length) (h2 : L.length ≤ 5) (u0 : 0 ≤ u) (u1 : u ≤ 49) : secOk L = true ∧ secOk (upBy u L) = true := by
  have a : ∀ p ∈ L, plB p = true := fun p hp => by
    obtain ⟨a1, a2, a3, a4, a5, a6, _⟩ := h p hp
    simp only [plB, Bool.and_eq_true]
    exact ⟨⟨inB_mk (by omega) (by omega), inB_mk (by omega) (by omega)⟩, inB_mk (by omega) (by omega)⟩
  have b : ∀ p ∈ upBy u L, plB p = true := fun p hp => by
    simp only [upBy, List.mem_map] at hp
    obtain ⟨q, hq, rfl⟩ := hp
    obtain ⟨a1, a2, a3, a4, a5, a6, _⟩ := h q hq
    simp only [plB, Bool.and_eq_true]
    exact ⟨⟨inB_mk (by omega) (by omega), inB_mk (by omega) (by omega)⟩, inB_mk (by omega) (by omega)⟩
  constructor
  · rw [secOk, inB_mk (by omega) (by omega), List.all_eq_true.2 a]; rfl
  · rw [secOk, inB_mk (by simp [upBy]; omega) (by simp [upBy]; omega), List.all_eq_true.2 b]; rfl

/-- The two lists between two rounds. -/
structure SecW (N : Nat) (w A : World) (u lo hi : Int) (k : Nat) (L : List I3) (v v' : Value) : Prop where
  two : TwoR N 41 3 A v v' k k (recCells 3 e3 L) (recCells 3 e3 (upBy u L))
  below : Below N w A
  len : L.length = k
  dr : ∀ p ∈ L, drP lo hi p
  lo0 : 0 ≤ lo
  lo1 : lo ≤ 10000
  hi0 : 0 ≤ hi
  hi1 : hi ≤ 255
  fv : ∃ g c, v = .slice (some ⟨g, 0, none⟩) k c
  fv' : ∃ g c, v' = .slice (some ⟨g, 0, none⟩) k c

theorem secW_next {N : Nat} {w A B : World} {u lo hi lo' hi' : Int} {k : Nat} {L : List I3} {v v' v1 v1' : Value} (h : SecW N w A u lo hi k L v v') (p : I3) (hp : drP lo' hi' p)
    (ht : TwoR N 41 3 B v1 v1' (k + 1) (k + 1) (recCells 3 e3 L ++ [.int .i64 p.1, .int .i64 p.2.1, .int .i64 p.2.2]) (recCells 3 e3 (upBy u L) ++ [.int .i64 p.1, .int .i64 p.2.1, .int .i64 (p.2.2 + u)]))
    (hb : Below N w B) (h1 : lo' ≤ lo) (h2 : hi ≤ hi') (h3 : 0 ≤ lo') (h4 : hi' ≤ 255) (h5 : ∃ g c, v1 = .slice (some ⟨g, 0, none⟩) (k + 1) c) (h6 : ∃ g c, v1' = .slice (some ⟨g, 0, none⟩) (k + 1) c) : SecW N w B u lo' hi' (k + 1) (L ++ [p]) v1 v1' := by
  refine ⟨?_, hb, by simp [h.len], fun q hq => ?_, h3, by have := h.lo1; omega, by have := h.hi0; omega, h4, h5, h6⟩
  · rw [recCells_snoc, upBy_snoc, recCells_snoc]
    exact ht
  · rcases List.mem_append.1 hq with hq | hq
    · obtain ⟨a1, a2, a3, a4, a5, a6, a7, a8⟩ := h.dr q hq
      exact ⟨a1, a2, a3, a4, a5, a6, by omega, by omega⟩
    · simp only [List.mem_singleton] at hq
      subst hq
      exact hp

theorem three_new (w : World) (B : Nat) (a b c : Value) (t : TypeId) (hB : B = w.heap.size) : ∀ j u, [a, b, c][j]? = some u → (w.alloc (.cells #[a, b, c] t)).cell? ((⟨B, 0, none⟩ : Addr).add j) = some u := by
  subst hB
  exact World.news_of_block (cs := #[a, b, c]) (Go.Deep.blk_alloc_new w _)

set_option maxRecDepth 10000 in
set_option maxHeartbeats 6400000 in
theorem fnSection_any (v : Value) (nb : Nat) (w : World) (h : BytesIn w.heap.size w v nb) :
    Calls Try.prog 5 #[v] w fun e w' => e = .returned (.bool true) ∧ Below w.heap.size w w' := by
  have HB := hide h
  obtain ⟨vao, vcap, rfl, hl, hm, _⟩ := h
  unfold maxLen at hm
  by_cases hbig : (1048576 : Int) < (nb : Int)
  · go_enter Try.func5, Try.ntmps5
    go_wp2_with fail
    refine (big_any _ _ _ _).mono ?_
    rintro e w' ⟨rfl, rfl⟩
    go_wp2
    go_ret
    exact ⟨rfl, Below.refl _ _⟩
  have hn : nb ≤ 1048576 := by omega
  obtain ⟨y0, y00, y01, at0⟩ := at_fix _ nb 0 w (unhide HB) hn (by omega)
  obtain ⟨yu, yu0, yu1, atu⟩ := at_fix _ nb 30 w (unhide HB) hn (by omega)
  have AT0 := hide at0
  have ATU := hide atu
  clear at0 atu
  have hst : SecW w.heap.size w ((w.alloc (.cells #[] 41)).alloc (.cells #[] 41)) (yu % 50) 10000 0 0 [] (.slice (some ⟨w.heap.size, 0, none⟩) 0 0) (.slice (some ⟨w.heap.size + 1, 0, none⟩) 0 0) := by
    refine ⟨⟨⟨rfl, Or.inr ⟨w.heap.size, 0, #[], rfl, Nat.le_refl _, ?_, Nat.le_refl _, Nat.zero_le _, rfl, rfl⟩⟩, ⟨rfl, Or.inr ⟨w.heap.size + 1, 0, #[], rfl, by omega, ?_, Nat.le_refl _, Nat.zero_le _, rfl, rfl⟩⟩, fun g h1 h2 => ?_⟩, Below.step (Below.alloc1 _ _) (Below.alloc1 _ _), rfl, fun p hp => by simp at hp, by omega, by omega, by omega, by omega, ⟨_, _, rfl⟩, ⟨_, _, rfl⟩⟩
    · exact (Below.heap_alloc _ _ _ (by simp)).trans (Go.Deep.blk_alloc_new _ _)
    · have := Go.Deep.blk_alloc_new (w.alloc (.cells #[] 41)) (.cells #[] 41)
      simpa using this
    · simp only [Value.ownBlock, Option.some.injEq] at h1 h2; omega
  have HST := hide hst
  have HW2 := hide hst.below
  clear hst
  obtain ⟨i0, hi, hz0, hz1, hz2⟩ := info_parts Try.infoPl
  go_enter Try.func5, Try.ntmps5
  go_wp2_with fail
  refine (big_any _ _ _ _).mono ?_
  rintro e w' ⟨rfl, rfl⟩
  go_wp2_with fail
  refine (unhide ATU _ (unhide HW2)).mono ?_
  rintro e w1 ⟨rfl, rfl⟩
  have hu : 0 ≤ yu % 50 ∧ yu % 50 ≤ 49 := by omega
  clear ATU HW2
  go_wp2
  generalize yu % 50 = u at *
  obtain ⟨u0, u1⟩ := hu
  clear yu0 yu1
  go_loopg [3, 4, 6, 7, 8] (1 + y0 % 5).toNat (fun g lv mv lov hiv i wr => ∃ (k : Nat) (L : List I3) (lo hi : Int), (k : Int) ≤ 1 + y0 % 5 ∧ g = (1 + y0 % 5 - k).toNat ∧ i = .int .i64 k ∧ lov = .int .i64 lo ∧ hiv = .int .i64 hi ∧ SecW w.heap.size w wr u lo hi k L lv mv)
  case atStart => exact ⟨0, [], 10000, 0, by omega, by simp, rfl, rfl, rfl, unhide HST⟩
  case round =>
    obtain ⟨k, L, lo, hi', hk, rfl, rfl, rfl, rfl, hS⟩ := hrel
    obtain ⟨gl, cl, rfl⟩ := hS.fv
    obtain ⟨gm, cm, rfl⟩ := hS.fv'
    have HS := hide hS
    have HWr := hide hS.below
    have l0 := hS.lo0
    have l1 := hS.lo1
    have j0 := hS.hi0
    have j1 := hS.hi1
    have hsz := hS.below.size
    clear hS HST
    go_wp2_with fail
    refine (unhide AT0 _ (unhide HWr)).mono ?_
    rintro e w1 ⟨rfl, hw1⟩
    have hw2 := hw1.symm
    subst hw2
    clear hw1
    by_cases hkc : (k : Int) < 1 + y0 % 5
    · have hk4 : k ≤ 4 := by omega
      go_wp2_with fail
      refine (at_i _ nb w.heap.size _ _ ((unhide HB).below (unhide HWr) (Nat.le_refl _)) hn (by omega) (by omega)).mono ?_
      rintro e w1 ⟨y1, rfl, a10, a11, hw1⟩
      subst hw1
      go_wp2_with fail
      refine (at_i _ nb w.heap.size _ _ ((unhide HB).below (unhide HWr) (Nat.le_refl _)) hn (by omega) (by omega)).mono ?_
      rintro e w1 ⟨y2, rfl, a20, a21, hw1⟩
      subst hw1
      go_wp2_with fail
      refine (at_i _ nb w.heap.size _ _ ((unhide HB).below (unhide HWr) (Nat.le_refl _)) hn (by omega) (by omega)).mono ?_
      rintro e w1 ⟨y3, rfl, a30, a31, hw1⟩
      subst hw1
      have H1 := hide ((unhide HS).two.below (Below.step (Below.alloc1 wr (.cells #[.int .i64 (1 + y1 % 90), .int .i64 (1 + y2 % 9), .int .i64 y3] 41)) (Below.alloc1 _ (.cells #[.int .i64 (1 + y1 % 90), .int .i64 (1 + y2 % 9), .int .i64 y3] 41))))
      by_cases hlo : y3 < lo <;> by_cases hhi : hi' < y3
      all_goals
        go_wp2_with (first | (at_builtin; refine wpList_append_lies _ rfl _ _ 39 rfl w.heap.size 41 i0 _ 3 24 Try.underlying39 hi hz0 hz1 hz2 rfl (by decide) _ k _ rfl (unhide H1).a ⟨wr.heap.size + 1, 0, none⟩ 1 1 [.int .i64 (1 + y1 % 90), .int .i64 (1 + y2 % 9), .int .i64 y3] rfl rfl (three_new _ _ _ _ _ _ (by simp)) (by simp [Value.oneCell']) (by omega) (by unfold maxLen; omega) (by omega) (by simp; omega) _ rfl ?_; intro g1 cap1 wa hown hgrow hat hlt; have HT2 := hide ((unhide H1).grown hown hgrow hat); have hP := ((ownV_alloc wr #[.int .i64 (1 + y1 % 90), .int .i64 (1 + y2 % 9), .int .i64 y3] 41).alloc (.cells #[.int .i64 (1 + y1 % 90), .int .i64 (1 + y2 % 9), .int .i64 y3] 41)).of_block (hgrow.block wr.heap.size (by simp only [World.size_alloc]; omega) (fun e => by have := ((unhide HS).two.a.lt _ e.symm).2; omega)); have c0 := OwnV.cell hP (i := 0) rfl; have c1 := OwnV.cell hP (i := 1) rfl; have c2 := OwnV.cell hP (i := 2) rfl; have f0 := hP.frozen; have hza : wr.heap.size + 2 ≤ wa.heap.size := (by have := hgrow.size; simp at this; omega); have HWa := hide ((((unhide HWr).alloc (by omega) (.cells #[.int .i64 (1 + y1 % 90), .int .i64 (1 + y2 % 9), .int .i64 y3] 41)).alloc (by simp; omega) (.cells #[.int .i64 (1 + y1 % 90), .int .i64 (1 + y2 % 9), .int .i64 y3] 41)).grown hgrow (by simp; omega) (fun g hg => ((unhide HS).two.a.lt g hg).1)); have hn1 : (Value.slice (some ⟨g1, 0, none⟩) (k + 1) cap1).ownBlock ≠ some wr.heap.size := (fun e => by simp only [Value.ownBlock, Option.some.injEq] at e; rcases hat with h1 | h1; (· have := ((unhide HS).two.a.lt _ h1).2; omega); (· simp at h1; omega)); have hn2 : (Value.slice (some ⟨gm, 0, none⟩) k cm).ownBlock ≠ some wr.heap.size := (fun e => by have := ((unhide HS).two.b.lt _ e).2; omega); have H2 := hide (((unhide HT2).setOther (a := ⟨wr.heap.size, 2, none⟩) hn1 hn2 (.int .i64 (y3 + u))).below (Below.alloc1 _ (.cells #[.int .i64 (1 + y1 % 90), .int .i64 (1 + y2 % 9), .int .i64 (y3 + u)] 41))).symm; have HWc := hide (((unhide HWa).setCell (p := ⟨wr.heap.size, 2, none⟩) hsz (.int .i64 (y3 + u))).alloc (by simp [World.setCell]; omega) (.cells #[.int .i64 (1 + y1 % 90), .int .i64 (1 + y2 % 9), .int .i64 (y3 + u)] 41)); clear H1 hown hgrow hat hP hn1 hn2 HT2 HWa) | (at_builtin; refine wpList_append_lies _ rfl _ _ 39 rfl w.heap.size 41 i0 _ 3 24 Try.underlying39 hi hz0 hz1 hz2 rfl (by decide) _ k _ rfl (unhide H2).a ⟨wa.heap.size, 0, none⟩ 1 1 [.int .i64 (1 + y1 % 90), .int .i64 (1 + y2 % 9), .int .i64 (y3 + u)] rfl rfl (three_new _ _ _ _ _ _ (by simp)) (by simp [Value.oneCell']) (by omega) (by unfold maxLen; omega) (by omega) (by simp [World.setCell]; omega) _ rfl ?_; intro g1 cap1 wa hown hgrow hat hlt; have HT3 := hide ((unhide H2).grown hown hgrow hat).symm; have HWb := hide ((unhide HWc).grown hgrow (by simp [World.setCell]; omega) (fun g hg => ((unhide H2).a.lt g hg).1)); clear H2 hown hgrow hat HWc))
        go_roundg (1 + y0 % 5 - ((k + 1 : Nat) : Int)).toNat
        case measure => omega
        case rel => exact ⟨k + 1, L ++ [(1 + y1 % 90, 1 + y2 % 9, y3)], _, _, by omega, rfl, by go_num, rfl, rfl, secW_next (unhide HS) (1 + y1 % 90, 1 + y2 % 9, y3) ⟨by dsimp only; omega, by dsimp only; omega, by dsimp only; omega, by dsimp only; omega, by dsimp only; omega, by dsimp only; omega, by dsimp only; omega, by dsimp only; omega⟩ (unhide HT3) (unhide HWb) (by omega) (by omega) (by omega) (by omega) ⟨_, _, rfl⟩ ⟨_, _, rfl⟩⟩
    · have hS := unhide HS
      obtain ⟨hok1, hok2⟩ := drawn_ok hS.dr (by have := hS.len; omega) (by have := hS.len; omega) u0 u1
      obtain ⟨n, d, x, e1, e2, e3, e4, d0, d1, n0, n1, b1, b2, x0⟩ := section_facts (lo := lo) (hi := hi') hok1 hok2 u0 (fun i hi => by
        have hm : L.getD i default ∈ L := by rw [getD_lt hi]; exact List.getElem_mem _
        exact ⟨(hS.dr _ hm).2.2.2.2.2.2.1, (hS.dr _ hm).2.2.2.2.2.2.2⟩)
      have S1 := hide (implSection_any _ L wr (ownsRow_recs hS.two.a hS.len))
      have HR2 := hide (ownsRow_recs hS.two.b (by simp [upBy, hS.len]))
      rw [e1, e2, hok1] at S1
      have E3 := hide e3
      have E4 := hide e4
      have OK2 := hide hok2
      clear hS hok1 hok2 e1 e2 e3 e4 HS
      go_wp2_with fail
      refine (unhide S1).mono ?_
      rintro e w2 ⟨rfl, hb⟩
      have HZ := hide (Below.step hb (Below.alloc1 w2 (.cells #[.int .i64 n, .int .i64 d] 43)))
      have HO := hide (ownV_alloc w2 #[.int .i64 n, .int .i64 d] 43)
      clear hb S1
      have S2 := hide (implSection_any _ (upBy u L) _ ((unhide HR2).below (unhide HZ)))
      rw [unhide E3, unhide E4, unhide OK2] at S2
      go_wp2_with fail
      refine (unhide S2).mono ?_
      rintro e w3 ⟨rfl, hb⟩
      have hz3 := hb.size
      replace HO := hide (OwnV.step (unhide HO) hb)
      replace HZ := hide (Below.step (unhide HZ) hb)
      have HW3 := hide (Below.step (unhide HWr) (unhide HZ))
      clear hb S2 HR2 E3 E4 OK2
      simp only [World.size_alloc] at hz3
      have c0 := OwnV.cell ((unhide HO).alloc (.cells #[.int .i64 (n + u * d), .int .i64 d] 43)) (i := 0) rfl
      have c1 := OwnV.cell ((unhide HO).alloc (.cells #[.int .i64 (n + u * d), .int .i64 d] 43)) (i := 1) rfl
      have m1 := mul_bd (a := lo) (b := d) l0 l1 (by omega) d1
      have m2 := mul_bd (a := hi') (b := d) j0 j1 (by omega) d1
      have m3 := mul_bd (a := u) (b := d) u0 u1 (by omega) d1
      have y1 : IntKind.i64.wrap (lo * d) = lo * d := by rw [IntKind.wrap_i64]; omega
      have y2 : IntKind.i64.wrap (hi' * d) = hi' * d := by rw [IntKind.wrap_i64]; omega
      have y3 : IntKind.i64.wrap (u * d) = u * d := by rw [IntKind.wrap_i64]; omega
      have y4 : IntKind.i64.wrap (n + u * d) = n + u * d := by rw [IntKind.wrap_i64]; omega
      obtain ⟨m11, m12⟩ := m1
      obtain ⟨m21, m22⟩ := m2
      obtain ⟨m31, m32⟩ := m3
      have ne1 : ¬ w2.heap.size = w3.heap.size := by omega
      have k1 : decide (d < 1) = false := by simp; omega
      have k2 : decide (n < lo * d) = false := by simp; omega
      have k3 : decide (hi' * d < n) = false := by simp; omega
      have k4 : decide (x ≤ 0) = false := by simp; omega
      go_wp2
      go_ret
      exact ⟨by simp, Below.step (unhide HW3) (Below.alloc1 _ _)⟩

end Go.Proofs.Ytliodmahbdmcbaa
