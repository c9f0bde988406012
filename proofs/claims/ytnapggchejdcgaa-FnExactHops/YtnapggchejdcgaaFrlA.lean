/- Floors: words; contracts of the laws' own szFloor, toFloor, eqFloor, markFloor, heldFloor. Written by wip/mkfrla.py. -/
import Derived.Test.YtnapggchejdcgaaOwnInts
import Derived.Test.YtnapggchejdcgaaExactKit
namespace Go.Proofs.Ytnapggchejdcgaa
open Go.RowKit

def vFloor (wd hg : Int) (dv : Value) : Value := .agg #[.int .i64 wd, .int .i64 hg, dv]

/-- Three boxes of the call's own. -/
structure F3 (w W : World) (a b c : List Value) : Prop where
  o1 : OwnV W w.heap.size a
  o2 : OwnV W (w.heap.size + 1) b
  o3 : OwnV W (w.heap.size + 1 + 1) c
  below : Below w.heap.size w W
theorem F3.step {w W W' : World} {a b c : List Value} (h : F3 w W a b c) (hb : Below W.heap.size W W') : F3 w W' a b c := ⟨h.o1.step hb, h.o2.step hb, h.o3.step hb, Below.step h.below hb⟩
theorem F3.put3 {w W : World} {a b c : List Value} (h : F3 w W a b c) (i : Nat) (u : Value) (hi : i < c.length) : F3 w (W.setCell ⟨w.heap.size + 1 + 1, i, none⟩ u) a b (c.set i u) :=
  ⟨h.o1.other (a := ⟨w.heap.size + 1 + 1, i, none⟩) (by show w.heap.size ≠ w.heap.size + 1 + 1; omega) u, h.o2.other (a := ⟨w.heap.size + 1 + 1, i, none⟩) (by show w.heap.size + 1 ≠ w.heap.size + 1 + 1; omega) u, h.o3.set i u hi, h.below.setCell (p := ⟨w.heap.size + 1 + 1, i, none⟩) (by show w.heap.size ≤ w.heap.size + 1 + 1; omega) u⟩
theorem F3.put2 {w W : World} {a b c : List Value} (h : F3 w W a b c) (i : Nat) (u : Value) (hi : i < b.length) : F3 w (W.setCell ⟨w.heap.size + 1, i, none⟩ u) a (b.set i u) c :=
  ⟨h.o1.other (a := ⟨w.heap.size + 1, i, none⟩) (by show w.heap.size ≠ w.heap.size + 1; omega) u, h.o2.set i u hi, h.o3.other (a := ⟨w.heap.size + 1, i, none⟩) (by show w.heap.size + 1 + 1 ≠ w.heap.size + 1; omega) u, h.below.setCell (p := ⟨w.heap.size + 1, i, none⟩) (by show w.heap.size ≤ w.heap.size + 1; omega) u⟩
theorem f3_new (w : World) (a b c : Array Value) (t1 t2 t3 : TypeId) : F3 w (((w.alloc (.cells a t1)).alloc (.cells b t2)).alloc (.cells c t3)) a.toList b.toList c.toList := by
  have h2 := ownV_alloc (w.alloc (.cells a t1)) b t2
  have h3 := ownV_alloc ((w.alloc (.cells a t1)).alloc (.cells b t2)) c t3
  simp only [World.size_alloc] at h2 h3
  exact ⟨((ownV_alloc w a t1).alloc _).alloc _, h2.alloc _, h3, Below.step (Below.step (Below.alloc1 _ _) (Below.alloc1 _ _)) (Below.alloc1 _ _)⟩
theorem farF {W : World} {g g' : Nat} {vs : List Value} (h : OwnV W g vs) (hne : g ≠ g') (i : Nat) (u : Value) : OwnV (W.setCell ⟨g', i, none⟩ u) g vs := h.other (a := ⟨g', i, none⟩) hne u

set_option maxRecDepth 10000 in
set_option maxHeartbeats 1600000 in
theorem toFloor_any (wd hg : Int) (dao : Option Addr) (dn dc : Nat) (D : List Int) (w : World) (hD : IntsIn w (.slice dao dn dc) D) (hsD : D.length ≤ 1048576) :
    Calls Try.prog 26 #[vFloor wd hg (.slice dao dn dc)] w fun e w' => ∃ g1, e = .returned (vFloor wd hg (.slice (some ⟨g1, 0, none⟩) D.length D.length)) ∧ w.heap.size ≤ g1 ∧ OwnV w' g1 (ints D) ∧ Below w.heap.size w w' := by
  have HD := hide hD
  have HH := hide (f3_new w #[.int .i64 wd, .int .i64 hg, .slice dao dn dc] #[.int .i64 0, .int .i64 0, .slice none 0 0] #[.int .i64 wd, .int .i64 hg, .slice none 0 0] 45 26 26)
  clear hD
  unfold vFloor
  go_enter Try.func26, Try.ntmps26
  go_wp2_with fail
  refine (toIntS_any _ D _ ((unhide HD).below (unhide HH).below) hsD).mono ?_
  rintro e w1 ⟨rfl, hO1, hb, -⟩
  obtain ⟨W0, e0⟩ : ∃ z, z = ((w.alloc (.cells #[.int .i64 wd, .int .i64 hg, .slice dao dn dc] 45)).alloc (.cells #[.int .i64 0, .int .i64 0, .slice none 0 0] 26)).alloc (.cells #[.int .i64 wd, .int .i64 hg, .slice none 0 0] 26) := ⟨_, rfl⟩
  rw [← e0] at HH hb hO1 ⊢
  clear e0
  have hg1 : w.heap.size + 1 + 1 < W0.heap.size := (unhide HH).o3.lt
  replace HH := hide ((unhide HH).step hb)
  have hlt1 := hO1.lt
  clear hb
  generalize W0.heap.size = g1 at *
  have HO1 := hide hO1
  clear hO1 HD
  have c0 := (unhide HH).o3.cell (i := 0) rfl
  have c1 := (unhide HH).o3.cell (i := 1) rfl
  have c2 := (unhide HH).o3.cell (i := 2) rfl
  have cf := (unhide HH).o3.frozen
  have HH1 := hide ((unhide HH).put3 2 (.slice (some ⟨g1, 0, none⟩) D.length D.length) (by simp))
  have e0 := (unhide HH1).o3.cell (i := 0) rfl
  have e1 := (unhide HH1).o3.cell (i := 1) rfl
  have e2 := (unhide HH1).o3.cell (i := 2) rfl
  have d0 := (unhide HH1).o2.cell (i := 0) rfl
  have d1 := (unhide HH1).o2.cell (i := 1) rfl
  have d2 := (unhide HH1).o2.cell (i := 2) rfl
  have df := (unhide HH1).o2.frozen
  have HH2 := hide ((((unhide HH1).put2 0 (.int .i64 wd) (by simp)).put2 1 (.int .i64 hg) (by simp)).put2 2 (.slice (some ⟨g1, 0, none⟩) D.length D.length) (by simp))
  have hq1 : g1 ≠ w.heap.size + 1 + 1 := by omega
  have hq3 : g1 ≠ w.heap.size + 1 := by omega
  have HO1' := hide (farF (farF (farF (farF (unhide HO1) hq1 2 (.slice (some ⟨g1, 0, none⟩) D.length D.length)) hq3 0 (.int .i64 wd)) hq3 1 (.int .i64 hg)) hq3 2 (.slice (some ⟨g1, 0, none⟩) D.length D.length))
  go_wp2
  have k0 := (unhide HH2).o2.cell (i := 0) rfl
  have k1 := (unhide HH2).o2.cell (i := 1) rfl
  have k2 := (unhide HH2).o2.cell (i := 2) rfl
  refine bodyPost_ret (v := vFloor wd hg (.slice (some ⟨g1, 0, none⟩) D.length D.length)) (by simp [results, Try.results26, go_sem, vFloor, k0, k1, k2]) rfl ⟨g1, rfl, by omega, unhide HO1', (unhide HH2).below⟩

set_option maxHeartbeats 1600000 in
theorem eqFloor_any (wd hg : Int) (dao : Option Addr) (dn dc : Nat) (dao' : Option Addr) (dn' dc' : Nat) (D : List Int) (w : World)
    (hD : IntsIn w (.slice dao dn dc) D) (hD' : IntsIn w (.slice dao' dn' dc') D) :
    Calls Try.prog 27 #[vFloor wd hg (.slice dao dn dc), vFloor wd hg (.slice dao' dn' dc')] w fun e w' => e = .returned (.bool true) ∧ Below w.heap.size w w' := by
  have A := Below.step (Below.alloc1 w (.cells #[.int .i64 wd, .int .i64 hg, .slice dao dn dc] 26)) (Below.alloc1 _ (.cells #[.int .i64 wd, .int .i64 hg, .slice dao' dn' dc'] 26))
  have HD := hide (hD.below A)
  have HD' := hide (hD'.below A)
  have HW := hide A
  clear A hD hD'
  unfold vFloor
  go_enter Try.func27, Try.ntmps27
  go_wp2_with fail
  refine (eqIntS_any _ _ D _ (unhide HD) (unhide HD')).mono ?_
  rintro e w1 ⟨rfl, n, rfl⟩
  replace HW := hide (below_drewN (unhide HW) n)
  clear HD HD'
  go_wp2
  go_ret
  exact ⟨rfl, unhide HW⟩

set_option maxHeartbeats 1600000 in
theorem szFloor_any (wd hg : Int) (dao : Option Addr) (dn dc : Nat) (D : List Int) (left : Int) (w : World)
    (hD : IntsIn w (.slice dao dn dc) D) (h0 : 0 ≤ left) (h1 : left ≤ 1048576) :
    Calls Try.prog 24 #[vFloor wd hg (.slice dao dn dc), .int .i64 left] w fun e w' => ∃ r, e = .returned (.int .i64 r) ∧ -1 ≤ r ∧ r ≤ 1048576 ∧ (0 ≤ r → D.length ≤ 1048576) ∧ Below w.heap.size w w' := by
  have A := Below.alloc1 w (.cells #[.int .i64 wd, .int .i64 hg, .slice dao dn dc] 45)
  have HD := hide (hD.below A)
  have HW := hide A
  clear A hD
  unfold vFloor
  by_cases hlt : left < D.length
  · go_enter Try.func24, Try.ntmps24
    go_wp2_with fail
    refine (szIntS_no _ D left _ (unhide HD) h0 h1 hlt).mono ?_
    rintro e w1 ⟨rfl, rfl⟩
    go_wp2
    go_ret
    exact ⟨_, rfl, by omega, by omega, fun h => by omega, unhide HW⟩
  · go_enter Try.func24, Try.ntmps24
    go_wp2_with fail
    refine (szIntS_yes _ D left _ (unhide HD) h1 (by omega)).mono ?_
    rintro e w1 ⟨rfl, rfl⟩
    have hnl : ¬ left - (D.length : Int) < 0 := by omega
    go_wp2
    go_ret
    exact ⟨_, rfl, by omega, by omega, fun h => by omega, unhide HW⟩

set_option maxHeartbeats 1600000 in
theorem markFloor_any (wd hg : Int) (dao : Option Addr) (dc : Nat) (D : List Int) (g1 : Nat) (k : Int) (w : World) (h1 : D ≠ [] → dao = some ⟨g1, 0, none⟩ ∧ OwnV w g1 (ints D))
    (hD : D.length ≤ 1048576) (hk0 : 0 ≤ k) (hk1 : k ≤ 1073741824) :
    Calls Try.prog 33 #[vFloor wd hg (.slice dao D.length dc), .int .i64 k] w fun e w' => e = .returned (.int .i64 (k + D.length)) ∧ Kept (fun b => b = g1 ∧ D ≠ []) w w' ∧ (D ≠ [] → OwnV w' g1 (ints (marks k D.length))) := by
  have A := Below.alloc1 w (.cells #[.int .i64 wd, .int .i64 hg, .slice dao D.length dc] 26)
  have HM1 := hide (markIntS_any dao dc D k g1 _ (fun h => ⟨(h1 h).1, (h1 h).2.step A⟩) hD hk0 (by omega))
  have HK := hide (kept_of_below (T := fun b => b = g1 ∧ D ≠ []) A)
  clear A h1
  unfold vFloor
  go_enter Try.func33, Try.ntmps33
  go_wp2_with fail
  refine (unhide HM1).mono ?_
  rintro e w1 ⟨rfl, hk, ho1⟩
  have HK1 := hide (Kept.trans (unhide HK) hk)
  have HO1 := hide ho1
  clear hk ho1 HM1 HK
  go_wp2
  go_ret
  exact ⟨rfl, unhide HK1, unhide HO1⟩

set_option maxHeartbeats 1600000 in
theorem heldFloor_any (wd hg : Int) (dao : Option Addr) (dn dc n : Nat) (k : Int) (w : World) (h1 : IntsIn w (.slice dao dn dc) (marks k n))
    (hD : n ≤ 1048576) (hk0 : 0 ≤ k) (hk1 : k ≤ 1073741824) :
    Calls Try.prog 42 #[vFloor wd hg (.slice dao dn dc), .int .i64 k] w fun e w' => e = .returned (.int .i64 (k + n)) ∧ Below w.heap.size w w' := by
  have A := Below.alloc1 w (.cells #[.int .i64 wd, .int .i64 hg, .slice dao dn dc] 26)
  have HM1 := hide (heldIntS_any _ (marks k n) k _ (h1.below A) (by rw [marks_len]) (by rw [marks_len]; exact hD) hk0 (by omega))
  rw [marks_len] at HM1
  have HW := hide A
  clear A h1
  have hn1 : ¬ k + (n : Int) < 0 := by omega
  unfold vFloor
  go_enter Try.func42, Try.ntmps42
  go_wp2_with fail
  refine (unhide HM1).mono ?_
  rintro e w1 ⟨rfl, rfl⟩
  go_wp2
  go_ret
  exact ⟨rfl, unhide HW⟩

end Go.Proofs.Ytnapggchejdcgaa
