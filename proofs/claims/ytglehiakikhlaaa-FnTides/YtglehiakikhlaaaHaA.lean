/- Harmonics: words; contracts of the laws' own toHarmonic, eqHarmonic, markHarmonicS. -/
import Derived.Test.YtglehiakikhlaaaFlE
import Derived.Test.YtglehiakikhlaaaRecs
import Derived.Test.YtglehiakikhlaaaKept
namespace Go.Proofs.Ytglehiakikhlaaa
open Go.RowKit

attribute [local go_sem] run_store_float

abbrev F4 := Nat × Nat × Nat × Nat
def eH (x : F4) : Nat → Value
  | 0 => .float .f64 x.1
  | 1 => .float .f64 x.2.1
  | 2 => .float .f64 x.2.2.1
  | _ => .float .f64 x.2.2.2
def vH (x y z p : Nat) : Value := .agg #[.float .f64 x, .float .f64 y, .float .f64 z, .float .f64 p]
abbrev RH := RecsIn 4 eH

theorem recHAt {w : World} {ao : Option Addr} {L : List F4} {k : Nat} (h : ∀ i, i < L.length → ∃ b o, ao = some ⟨b, o, none⟩ ∧ ∀ j, j < 4 → w.cell? ⟨b, o + (i * 4 + j), none⟩ = some (eH (L.getD i default) j)) (hk : k < L.length) :
    ∃ b o x y z p, ao = some ⟨b, o, none⟩ ∧ w.cell? ⟨b, o + k * 4, none⟩ = some (.float .f64 x) ∧ w.cell? ⟨b, o + k * 4 + 1, none⟩ = some (.float .f64 y) ∧ w.cell? ⟨b, o + k * 4 + 2, none⟩ = some (.float .f64 z) ∧ w.cell? ⟨b, o + k * 4 + 3, none⟩ = some (.float .f64 p) ∧ Hid (L.getD k default = (x, y, z, p)) := by
  obtain ⟨b, o, e, hc⟩ := h k hk
  exact ⟨b, o, _, _, _, _, e, hc 0 (by omega), hc 1 (by omega), hc 2 (by omega), hc 3 (by omega), rfl⟩

/-- Three boxes of four. -/
structure H3 (w W : World) (a b c : List Value) : Prop where
  o1 : OwnV W w.heap.size a
  o2 : OwnV W (w.heap.size + 1) b
  o3 : OwnV W (w.heap.size + 1 + 1) c
  below : Below w.heap.size w W
theorem H3.step {w W W' : World} {a b c : List Value} (h : H3 w W a b c) (hb : Below W.heap.size W W') : H3 w W' a b c := ⟨h.o1.step hb, h.o2.step hb, h.o3.step hb, Below.step h.below hb⟩
theorem H3.put3 {w W : World} {a b c : List Value} (h : H3 w W a b c) (i : Nat) (u : Value) (hi : i < c.length) : H3 w (W.setCell ⟨w.heap.size + 1 + 1, i, none⟩ u) a b (c.set i u) :=
  ⟨h.o1.other (a := ⟨w.heap.size + 1 + 1, i, none⟩) (by show w.heap.size ≠ w.heap.size + 1 + 1; omega) u, h.o2.other (a := ⟨w.heap.size + 1 + 1, i, none⟩) (by show w.heap.size + 1 ≠ w.heap.size + 1 + 1; omega) u, h.o3.set i u hi, h.below.setCell (p := ⟨w.heap.size + 1 + 1, i, none⟩) (by show w.heap.size ≤ w.heap.size + 1 + 1; omega) u⟩
theorem H3.put2 {w W : World} {a b c : List Value} (h : H3 w W a b c) (i : Nat) (u : Value) (hi : i < b.length) : H3 w (W.setCell ⟨w.heap.size + 1, i, none⟩ u) a (b.set i u) c :=
  ⟨h.o1.other (a := ⟨w.heap.size + 1, i, none⟩) (by show w.heap.size ≠ w.heap.size + 1; omega) u, h.o2.set i u hi, h.o3.other (a := ⟨w.heap.size + 1, i, none⟩) (by show w.heap.size + 1 + 1 ≠ w.heap.size + 1; omega) u, h.below.setCell (p := ⟨w.heap.size + 1, i, none⟩) (by show w.heap.size ≤ w.heap.size + 1; omega) u⟩
theorem h3_new (w : World) (a b c : Array Value) (t1 t2 t3 : TypeId) : H3 w (((w.alloc (.cells a t1)).alloc (.cells b t2)).alloc (.cells c t3)) a.toList b.toList c.toList := by
  have h2 := ownV_alloc (w.alloc (.cells a t1)) b t2
  have h3 := ownV_alloc ((w.alloc (.cells a t1)).alloc (.cells b t2)) c t3
  simp only [World.size_alloc] at h2 h3
  exact ⟨((ownV_alloc w a t1).alloc _).alloc _, h2.alloc _, h3, Below.step (Below.step (Below.alloc1 _ _) (Below.alloc1 _ _)) (Below.alloc1 _ _)⟩

set_option maxHeartbeats 1600000 in
theorem toHarmonic_any (x y z p : Nat) (w : World) :
    Calls Try.prog 60 #[vH x y z p] w fun e w' => e = .returned (vH x y z p) ∧ Below w.heap.size w w' := by
  have HT := hide fun a b V => toWave_any a b V
  unfold vW at HT
  have hH := h3_new w #[.float .f64 x, .float .f64 y, .float .f64 z, .float .f64 p] #[.float .f64 0, .float .f64 0, .float .f64 0, .float .f64 0] #[.float .f64 0, .float .f64 0, .float .f64 0, .float .f64 0] 96 41 41
  have HH := hide hH
  clear hH
  unfold vH
  go_enter Try.func60, Try.ntmps60
  go_wp2_with fail
  refine (unhide HT _ _ _).mono ?_
  rintro e w1 ⟨rfl, hb⟩
  replace HH := hide ((unhide HH).step hb)
  clear hb
  have a2 := (unhide HH).o1.cell (i := 2) rfl
  have a3 := (unhide HH).o1.cell (i := 3) rfl
  have c0 := (unhide HH).o3.cell (i := 0) rfl
  have c1 := (unhide HH).o3.cell (i := 1) rfl
  have c2 := (unhide HH).o3.cell (i := 2) rfl
  have c3 := (unhide HH).o3.cell (i := 3) rfl
  have cf := (unhide HH).o3.frozen
  have hn1 : ¬ w.heap.size = w.heap.size + 1 + 1 := by omega
  have hn2 : ¬ w.heap.size + 1 + 1 = w.heap.size := by omega
  go_wp2_with fail
  replace HH := hide (((unhide HH).put3 0 (.float .f64 x) (by simp)).put3 1 (.float .f64 y) (by simp))
  refine (unhide HT _ _ _).mono ?_
  rintro e w2 ⟨rfl, hb⟩
  replace HH := hide ((unhide HH).step hb)
  clear hb a2 a3 c0 c1 c2 c3 cf
  have c0 := (unhide HH).o3.cell (i := 0) rfl
  have c1 := (unhide HH).o3.cell (i := 1) rfl
  have c2 := (unhide HH).o3.cell (i := 2) rfl
  have c3 := (unhide HH).o3.cell (i := 3) rfl
  have cf := (unhide HH).o3.frozen
  have HH1 := hide (((unhide HH).put3 2 (.float .f64 z) (by simp)).put3 3 (.float .f64 p) (by simp))
  have e0 := (unhide HH1).o3.cell (i := 0) rfl
  have e1 := (unhide HH1).o3.cell (i := 1) rfl
  have e2 := (unhide HH1).o3.cell (i := 2) rfl
  have e3 := (unhide HH1).o3.cell (i := 3) rfl
  have d0 := (unhide HH1).o2.cell (i := 0) rfl
  have d1 := (unhide HH1).o2.cell (i := 1) rfl
  have d2 := (unhide HH1).o2.cell (i := 2) rfl
  have d3 := (unhide HH1).o2.cell (i := 3) rfl
  have df := (unhide HH1).o2.frozen
  have HH2 := hide (((((unhide HH1).put2 0 (.float .f64 x) (by simp)).put2 1 (.float .f64 y) (by simp)).put2 2 (.float .f64 z) (by simp)).put2 3 (.float .f64 p) (by simp))
  go_wp2
  have k0 := (unhide HH2).o2.cell (i := 0) rfl
  have k1 := (unhide HH2).o2.cell (i := 1) rfl
  have k2 := (unhide HH2).o2.cell (i := 2) rfl
  have k3 := (unhide HH2).o2.cell (i := 3) rfl
  refine bodyPost_ret (v := vH x y z p) (by simp [results, Try.results60, go_sem, vH, k0, k1, k2, k3]) rfl ⟨rfl, (unhide HH2).below⟩

set_option maxHeartbeats 800000 in
theorem eqHarmonic_any (x y z p x' y' z' p' : Nat) (w : World) (h1 : fsame .f64 x x') (h2 : fsame .f64 y y') (h3 : fsame .f64 z z') (h4 : fsame .f64 p p') :
    Calls Try.prog 61 #[vH x y z p, vH x' y' z' p'] w fun e w' => e = .returned (.bool true) ∧ Below w.heap.size w w' := by
  have H1 := hide fun V => eqWave_any x y x' y' V h1 h2
  have H2 := hide fun V => eqWave_any z p z' p' V h3 h4
  unfold vW at H1 H2
  unfold vH
  have A := Below.step (Below.alloc1 w (.cells #[.float .f64 x, .float .f64 y, .float .f64 z, .float .f64 p] 41)) (Below.alloc1 _ (.cells #[.float .f64 x', .float .f64 y', .float .f64 z', .float .f64 p'] 41))
  have O1 := (ownV_alloc w #[.float .f64 x, .float .f64 y, .float .f64 z, .float .f64 p] 41).alloc (.cells #[.float .f64 x', .float .f64 y', .float .f64 z', .float .f64 p'] 41)
  have O2 := ownV_alloc (w.alloc (.cells #[.float .f64 x, .float .f64 y, .float .f64 z, .float .f64 p] 41)) #[.float .f64 x', .float .f64 y', .float .f64 z', .float .f64 p'] 41
  simp only [World.size_alloc] at O2
  have HW := hide A
  have HO1 := hide O1
  have HO2 := hide O2
  clear A O1 O2 h1 h2 h3 h4
  go_enter Try.func61, Try.ntmps61
  go_wp2_with fail
  refine (unhide H1 _).mono ?_
  rintro e w1 ⟨rfl, hb⟩
  replace HW := hide (Below.step (unhide HW) hb)
  have c1 := OwnV.cell (OwnV.step (unhide HO1) hb) (i := 2) rfl
  have c2 := OwnV.cell (OwnV.step (unhide HO1) hb) (i := 3) rfl
  have c3 := OwnV.cell (OwnV.step (unhide HO2) hb) (i := 2) rfl
  have c4 := OwnV.cell (OwnV.step (unhide HO2) hb) (i := 3) rfl
  clear hb H1 HO1 HO2
  go_wp2_with fail
  refine (unhide H2 _).mono ?_
  rintro e w2 ⟨rfl, hb⟩
  replace HW := hide (Below.step (unhide HW) hb)
  clear hb H2
  go_wp2
  go_ret
  exact ⟨rfl, unhide HW⟩

set_option maxHeartbeats 1600000 in
theorem markHarms_o (g : Nat) (L : List F4) (k : Int) (w : World) (h : OwnV w g (recCells 4 eH L)) (hn : L.length ≤ 1048576) (hk0 : 0 ≤ k) (hk1 : k ≤ 1048576) :
    Calls Try.prog 26 #[.slice (some ⟨g, 0, none⟩) L.length L.length, .int .i64 k] w fun e w' => e = .returned (.int .i64 (k + 4 * (L.length : Int))) ∧ Kept (fun b => b = g) w w' := by
  have HM0 : Hid (∃ vs : List Value, vs.length = L.length * 4 ∧ OwnV w g vs) := ⟨_, recCells_length, h⟩
  clear h
  generalize L.length = n at *
  go_enter Try.func26, Try.ntmps26
  go_wp2
  go_loopg [1, 5] n (fun gh kv iv wr => ∃ j : Nat, j ≤ n ∧ gh = n - j ∧ iv = .int .i64 j ∧ kv = .int .i64 (k + 4 * (j : Int)) ∧ Kept (fun b => b = g) w wr ∧ ∃ vs : List Value, vs.length = n * 4 ∧ OwnV wr g vs)
  case atStart => exact ⟨0, Nat.zero_le _, rfl, rfl, by congr 1; omega, Kept.refl _ _, unhide HM0⟩
  case round =>
    obtain ⟨j, hj, rfl, rfl, rfl, hK, vs, hvs, hM⟩ := hrel
    clear HM0
    by_cases hjn : j < n
    · have hf := hM.frozen
      have hu : ∀ q, q < n * 4 → ∃ u, wr.cell? ⟨g, q, none⟩ = some u := fun q hq => ⟨_, hM.cell (List.getElem?_eq_getElem (by omega))⟩
      obtain ⟨u0, hu0⟩ := hu (j * 4) (by omega)
      obtain ⟨u1, hu1⟩ := hu (j * 4 + 1) (by omega)
      obtain ⟨u2, hu2⟩ := hu (j * 4 + 2) (by omega)
      obtain ⟨u3, hu3⟩ := hu (j * 4 + 3) (by omega)
      have HM := hide hM
      have HK := hide hK
      have HVS := hide hvs
      clear hM hK hu hvs
      have hji : (j : Int) < n := by omega
      go_wp2
      go_roundg (n - (j + 1))
      case measure => omega
      case rel =>
        have hl := unhide HVS
        exact ⟨j + 1, by omega, rfl, by go_num, by congr 1; omega, ((((unhide HK).setCell (p := ⟨g, j * 4, none⟩) rfl _).setCell (p := ⟨g, j * 4 + 1, none⟩) rfl _).setCell (p := ⟨g, j * 4 + 2, none⟩) rfl _).setCell (p := ⟨g, j * 4 + 3, none⟩) rfl _, _, by simpa using hl, (((OwnV.set (unhide HM) (j * 4) _ (by omega)).set (j * 4 + 1) _ (by simp; omega)).set (j * 4 + 2) _ (by simp; omega)).set (j * 4 + 3) _ (by simp; omega)⟩
    · have hjj : j = n := by omega
      subst hjj
      go_wp2
      go_ret
      exact ⟨rfl, hK⟩

end Go.Proofs.Ytglehiakikhlaaa
