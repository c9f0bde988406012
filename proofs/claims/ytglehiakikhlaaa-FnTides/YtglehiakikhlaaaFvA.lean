/- Lists of floats up to which NaN, of the call's own; contracts of the laws' own toFloat64S, eqFloat64S, markFloat64S, heldFloat64S for the laws. -/
import Derived.Test.YtglehiakikhlaaaFlL
import Derived.Test.YtglehiakikhlaaaOwC
namespace Go.Proofs.Ytglehiakikhlaaa
open Go.RowKit

attribute [local go_sem] run_store_float

def fsames (xs ys : List Nat) : Prop := xs.length = ys.length ∧ ∀ i, i < xs.length → fsame .f64 (xs.getD i 0) (ys.getD i 0)
theorem fsames.refl (xs : List Nat) : fsames xs xs := ⟨rfl, fun _ _ => fsame.refl _ _⟩
theorem fsames.symm {xs ys : List Nat} (h : fsames xs ys) : fsames ys xs := ⟨h.1.symm, fun i hi => (h.2 i (by rw [h.1]; exact hi)).symm⟩
theorem fsames.trans {xs ys zs : List Nat} (h : fsames xs ys) (h' : fsames ys zs) : fsames xs zs := ⟨h.1.trans h'.1, fun i hi => (h.2 i hi).trans (h'.2 i (by rw [← h.1]; exact hi))⟩
theorem fsames.snoc {xs ys : List Nat} {x y : Nat} (h : fsames xs ys) (hx : fsame .f64 x y) : fsames (xs ++ [x]) (ys ++ [y]) := by
  refine ⟨by simp [h.1], fun i hi => ?_⟩
  have hl := h.1
  by_cases e : i < xs.length
  · have e1 : (xs ++ [x]).getD i 0 = xs.getD i 0 := by simp [List.getD, List.getElem?_append, e]
    have e2 : (ys ++ [y]).getD i 0 = ys.getD i 0 := by simp [List.getD, List.getElem?_append, show i < ys.length by omega]
    rw [e1, e2]
    exact h.2 i e
  · have hi' : i = xs.length := by simp at hi; omega
    subst hi'
    have e1 : (xs ++ [x]).getD xs.length 0 = x := by simp [List.getD]
    have e2 : (ys ++ [y]).getD xs.length 0 = y := by rw [hl]; simp [List.getD]
    rw [e1, e2]
    exact hx

/-- The slice holds the floats M, up to which NaN. -/
def FlsIn (w : World) (v : Value) (M : List Nat) : Prop := ∃ ys, fsames ys M ∧ CIn (Value.float .f64) w v ys
def OwnFls (B : Nat) (w : World) (v : Value) (M : List Nat) : Prop := ∃ ys, fsames ys M ∧ OwnC (Value.float .f64) B w v ys
def OwnFlsU (B U : Nat) (w : World) (v : Value) (M : List Nat) : Prop := ∃ ys, fsames ys M ∧ OwnCU (Value.float .f64) B U w v ys
theorem FlsIn.below {w w' : World} {v : Value} {M : List Nat} (h : FlsIn w v M) (hb : Below w.heap.size w w') : FlsIn w' v M := by
  obtain ⟨ys, h1, h2⟩ := h
  exact ⟨ys, h1, h2.below hb⟩
theorem OwnFls.upto {B : Nat} {w : World} {v : Value} {M : List Nat} (h : OwnFls B w v M) : OwnFlsU B w.heap.size w v M := by
  obtain ⟨ys, h1, h2⟩ := h
  exact ⟨ys, h1, h2.upto⟩
theorem OwnFls.intsIn {B : Nat} {w : World} {v : Value} {M : List Nat} (h : OwnFls B w v M) : FlsIn w v M := by
  obtain ⟨ys, h1, h2⟩ := h
  exact ⟨ys, h1, h2.intsIn⟩
theorem OwnFlsU.inn {B U : Nat} {w : World} {v : Value} {M : List Nat} (h : OwnFlsU B U w v M) : FlsIn w v M := by
  obtain ⟨ys, h1, h2⟩ := h
  exact ⟨ys, h1, h2.inn⟩
theorem OwnFlsU.below {B U : Nat} {w w' : World} {v : Value} {M : List Nat} (h : OwnFlsU B U w v M) (hb : Below w.heap.size w w') : OwnFlsU B U w' v M := by
  obtain ⟨ys, h1, h2⟩ := h
  exact ⟨ys, h1, h2.below hb⟩
theorem OwnFlsU.kept {T : Nat → Prop} {B U : Nat} {w w' : World} {v : Value} {M : List Nat} (h : OwnFlsU B U w v M) (hk : Kept T w w') (hT : ∀ b, B ≤ b → b < U → ¬ T b) : OwnFlsU B U w' v M := by
  obtain ⟨ys, h1, h2⟩ := h
  exact ⟨ys, h1, h2.kept hk hT⟩

theorem toFls_o (v : Value) (xs : List Nat) (w : World) (h : FlIn w v xs) (hs : xs.length ≤ 1048576) :
    Calls Try.prog 30 #[v] w fun e w' => ∃ g, e = .returned (.slice (some ⟨g, 0, none⟩) xs.length xs.length) ∧ w.heap.size ≤ g ∧ OwnV w' g (fls xs) ∧ Below w.heap.size w w' :=
  (toFloat64S_any v xs w h hs).mono fun _ _ ⟨h1, h2, h3, _⟩ => ⟨_, h1, Nat.le_refl _, h2, h3⟩

set_option maxHeartbeats 400000 in
theorem eqFls_q (v v' : Value) (xs ys : List Nat) (w : World) (h : CIn (Value.float .f64) w v xs) (h' : CIn (Value.float .f64) w v' ys) (hs : fsames xs ys) :
    Calls Try.prog 24 #[v, v'] w fun e w' => e = .returned (.bool true) ∧ ∃ n, w' = w.drewN n := by
  obtain ⟨hlen, hsame⟩ := hs
  obtain ⟨ao, cap, rfl, hl, hm, hc⟩ := h
  obtain ⟨ao', cap', rfl, _, _, hc'⟩ := h'
  rw [← hlen] at hc' ⊢
  unfold maxLen at hm
  have HC := hide hc
  have HC' := hide hc'
  have HS := hide hsame
  clear hc hc' hlen hsame
  go_enter Try.func24, Try.ntmps24
  go_wp2
  go_loopg [5] xs.length (fun g i wr => ∃ q, wr = w.drewN q ∧ ∃ k : Nat, k ≤ xs.length ∧ g = xs.length - k ∧ i = .int .i64 k)
  case atStart => exact ⟨0, rfl, 0, Nat.zero_le _, rfl, rfl⟩
  case round =>
    obtain ⟨q, hq, k, hk, rfl, rfl⟩ := hrel
    by_cases hkn : k < xs.length
    · obtain ⟨b, o, rfl, hcell⟩ := unhide HC k hkn
      obtain ⟨b', o', rfl, hcell'⟩ := unhide HC' k hkn
      have hxy := unhide HS k hkn
      rw [show xs.getD k default = xs.getD k 0 from rfl] at hcell
      rw [show ys.getD k default = ys.getD k 0 from rfl] at hcell'
      generalize xs.getD k 0 = x at *
      generalize ys.getD k 0 = y at *
      have c0 : wr.cell? ⟨b, o + k, none⟩ = some (.float .f64 x) := by rw [hq]; exact hcell
      have c1 : wr.cell? ⟨b', o' + k, none⟩ = some (.float .f64 y) := by rw [hq]; exact hcell'
      have HSF := hide fun n => sameFloat_q x y (wr.drewN n) hxy
      have HQ := hide hq
      have hki : (k : Int) < xs.length := by omega
      clear hq hcell hcell' hxy
      go_wp2
      go_quiet ((go_at_call 39; exact Calls.quiet_of (unhide HSF _)))
      go_wp2
      go_roundg (xs.length - (k + 1))
      case measure => omega
      case rel => exact ⟨_, by rw [unhide HQ]; exact World.drewN_drewN _ _ _, k + 1, by omega, rfl, by go_num⟩
    · subst hq
      go_wp2
      go_ret
      exact ⟨rfl, q, rfl⟩

theorem eqFls_o (v v' : Value) (M : List Nat) (w : World) (h : FlsIn w v M) (h' : FlsIn w v' M) :
    Calls Try.prog 24 #[v, v'] w fun e w' => e = .returned (.bool true) ∧ Below w.heap.size w w' := by
  obtain ⟨xs, h1, h2⟩ := h
  obtain ⟨ys, h3, h4⟩ := h'
  refine (eqFls_q v v' xs ys w h2 h4 (h1.trans h3.symm)).mono ?_
  rintro e w' ⟨rfl, n, rfl⟩
  exact ⟨rfl, below_drewN (Below.refl _ _) n⟩

theorem eqFlA_o (v v' : Value) (xs : List Nat) (w : World) (h : FlIn w v xs) (h' : FlIn w v' xs) :
    Calls Try.prog 24 #[v, v'] w fun e w' => e = .returned (.bool true) ∧ Below w.heap.size w w' := eqFls_o v v' xs w ⟨xs, fsames.refl _, h⟩ ⟨xs, fsames.refl _, h'⟩

/-- The marks: floats of whole numbers. -/
def fmark (k : Int) (i : Nat) : Nat := floatOfInt .f64 (k + (i : Int))

set_option maxHeartbeats 800000 in
theorem markFls_any (g cap : Nat) (L : List Nat) (k : Int) (w : World) (h : OwnV w g (L.map (Value.float .f64))) (hn : L.length ≤ 1048576) (hk0 : 0 ≤ k) (hk1 : k ≤ 4611686018427387904) :
    Calls Try.prog 27 #[.slice (some ⟨g, 0, none⟩) L.length cap, .int .i64 k] w fun e w' => e = .returned (.int .i64 (k + (L.length : Int))) ∧ Kept (fun b => b = g) w w' ∧ OwnV w' g ((marksL (fmark k) L.length).map (Value.float .f64)) := by
  have HM0 := hide h
  clear h
  go_enter Try.func27, Try.ntmps27
  go_wp2
  go_loopg [1, 5] L.length (fun gh kv iv wr => ∃ j : Nat, j ≤ L.length ∧ gh = L.length - j ∧ iv = .int .i64 j ∧ kv = .int .i64 (k + (j : Int)) ∧ Kept (fun b => b = g) w wr ∧ OwnV wr g ((midL (fmark k) L j).map (Value.float .f64)))
  case atStart => exact ⟨0, Nat.zero_le _, rfl, rfl, by congr 1; omega, Kept.refl _ _, by rw [midL_zero]; exact unhide HM0⟩
  case round =>
    obtain ⟨j, hj, rfl, rfl, rfl, hK, hM⟩ := hrel
    clear HM0
    by_cases hjn : j < L.length
    · have hf := hM.frozen
      have hu0 := hM.cell (map_get (E := Value.float .f64) (midL (fmark k) L j) (i := j) (by rw [midL_len]; exact hjn))
      have hN := hM.set j (.float .f64 (fmark k j)) (by rw [List.length_map, midL_len]; exact hjn)
      rw [← List.map_set, midL_step] at hN
      have HN := hide hN
      have HK := hide hK
      unfold fmark at HN
      clear hM hK hN
      generalize (midL (fmark k) L j).getD j default = z0 at *
      have hji : (j : Int) < L.length := by omega
      go_wp2
      go_roundg (L.length - (j + 1))
      case measure => omega
      case rel => exact ⟨j + 1, by omega, rfl, by go_num, by congr 1; omega, (unhide HK).setCell (p := ⟨g, j, none⟩) rfl _, unhide HN⟩
    · have hjj : j = L.length := by omega
      subst hjj
      go_wp2
      go_ret
      exact ⟨rfl, hK, by rw [← midL_done]; exact hM⟩

theorem markFls_o (g : Nat) (xs : List Nat) (k : Int) (w : World) (h : OwnV w g (fls xs)) (hn : xs.length ≤ 1048576) (hk0 : 0 ≤ k) (hk1 : k ≤ 4611686018427387904) :
    Calls Try.prog 27 #[.slice (some ⟨g, 0, none⟩) xs.length xs.length, .int .i64 k] w fun e w' => e = .returned (.int .i64 (k + xs.length)) ∧ Kept (fun b => b = g) w w' := by
  refine (markFls_any g xs.length xs k w h hn hk0 hk1).mono ?_
  rintro e w' ⟨rfl, hk, _⟩
  exact ⟨rfl, hk⟩

theorem markFls_nil (ao : Option Addr) (cap : Nat) (k : Int) (w : World) :
    Calls Try.prog 27 #[.slice ao 0 cap, .int .i64 k] w fun e w' => e = .returned (.int .i64 k) ∧ w = w' := by
  go_enter Try.func27, Try.ntmps27
  go_wp2
  go_loopg [1, 5] 0 (fun _ kv iv wr => w = wr ∧ iv = .int .i64 0 ∧ kv = .int .i64 k)
  case atStart => exact ⟨rfl, rfl, rfl⟩
  case round =>
    obtain ⟨rfl, rfl, rfl⟩ := hrel
    go_wp2
    go_ret
    exact ⟨rfl, rfl⟩

theorem markFls_v (B U : Nat) (ao : Option Addr) (n cap : Nat) (M : List Nat) (w : World) (h : OwnFlsU B U w (.slice ao n cap) M) (hn : M.length ≤ 1048576) :
    Calls Try.prog 27 #[.slice ao n cap, .int .i64 1] w fun e w' => e = .returned (.int .i64 (1 + (M.length : Int))) ∧ Kept (fun b => B ≤ b ∧ b < U) w w' ∧ OwnFlsU B U w' (.slice ao n cap) (marksL (fmark 1) M.length) := by
  obtain ⟨L, hs, ao', cap', e, h1, h2, h3⟩ := h
  rw [← hs.1] at hn ⊢
  simp only [Value.slice.injEq] at e
  obtain ⟨rfl, rfl, rfl⟩ := e
  by_cases hne : L = []
  · subst hne
    refine (markFls_nil ao cap 1 w).mono ?_
    rintro e w' ⟨rfl, rfl⟩
    exact ⟨rfl, Kept.refl _ _, _, fsames.refl _, ao, cap, by rw [marksL_len], by rw [marksL_len]; exact h1, h2, fun h => absurd rfl h⟩
  · obtain ⟨g, rfl, hg, hu, ho⟩ := h3 hne
    refine (markFls_any g cap L 1 w ho hn (by omega) (by omega)).mono ?_
    rintro e w' ⟨rfl, hk, ho'⟩
    exact ⟨rfl, hk.mono (fun b _ hb => by rw [hb]; exact ⟨hg, hu⟩), _, fsames.refl _, _, cap, by rw [marksL_len], by rw [marksL_len]; exact h1, h2, fun _ => ⟨g, rfl, hg, hu, ho'⟩⟩

theorem fmark_self (k : Int) (i : Nat) (h0 : 0 ≤ k) (h1 : k + i < 16777216) {x : Nat} (hx : fsame .f64 x (fmark k i)) : FloatKind.f64.format.order x (floatOfInt .f64 (k + (i : Int))) = some .eq := by
  have hI := isI_int .f64 (k + (i : Int)) (by omega)
  have hn : ¬ fnan .f64 (floatOfInt .f64 (k + (i : Int))) := by
    obtain ⟨s, q, hd, _⟩ := hI
    unfold fnan
    rw [hd]
    simp [Ieee.Datum.isNaN]
  rw [order_same hx (fsame.refl .f64 _)]
  exact order_self hn

set_option maxHeartbeats 800000 in
theorem heldFls_v (v : Value) (M : List Nat) (W : World) (hW : FlsIn W v (marksL (fmark 1) M.length)) (hn : M.length ≤ 1048576) :
    Calls Try.prog 28 #[v, .int .i64 1] W fun e w' => e = .returned (.int .i64 (1 + (M.length : Int))) ∧ Below W.heap.size W w' := by
  obtain ⟨ys, ⟨hl0, hs⟩, ao, cap, rfl, hl, hm, hc⟩ := hW
  rw [marksL_len] at hl0
  have HC := hide hc
  have HS : Hid (∀ i, i < M.length → fsame .f64 (ys.getD i 0) (fmark 1 i)) := fun i hi => by
    have := hs i (by rw [hl0]; exact hi)
    rw [show (marksL (fmark 1) M.length).getD i 0 = fmark 1 i from marksL_get (fmark 1) hi] at this
    exact this
  clear hc hs
  rw [hl0] at HC hl ⊢
  unfold maxLen at hm
  generalize M.length = n at *
  go_enter Try.func28, Try.ntmps28
  go_wp2
  go_loopg [1, 5] n (fun gh kv iv wr => (∃ q, wr = W.drewN q) ∧ ∃ j : Nat, j ≤ n ∧ gh = n - j ∧ iv = .int .i64 j ∧ kv = .int .i64 (1 + (j : Int)))
  case atStart => exact ⟨⟨0, rfl⟩, 0, Nat.zero_le _, rfl, rfl, by congr 1⟩
  case round =>
    obtain ⟨⟨q, hq⟩, j, hj, rfl, rfl, rfl⟩ := hrel
    have HW := hide hq
    by_cases hjn : j < n
    · obtain ⟨b, o, rfl, hcell⟩ := unhide HC j hjn
      have hx := unhide HS j hjn
      rw [show ys.getD j default = ys.getD j 0 from rfl] at hcell
      have hord := fmark_self 1 j (by omega) (by omega) hx
      generalize ys.getD j 0 = x at *
      have c0 : wr.cell? ⟨b, o + j, none⟩ = some (.float .f64 x) := by rw [hq]; exact hcell
      have hji : (j : Int) < n := by omega
      clear hq hcell hx
      go_wp2
      go_roundg (n - (j + 1))
      case measure => omega
      case rel => exact ⟨⟨q, unhide HW⟩, j + 1, by omega, rfl, by go_num, by go_num⟩
    · have hjj : j = n := by omega
      subst hjj
      subst hq
      go_wp2
      go_ret
      exact ⟨rfl, below_drewN (Below.refl _ _) _⟩

end Go.Proofs.Ytglehiakikhlaaa
