/- The contract of the specification's Strip. -/
import Derived.Test.YteohkabenbaaaaaFlH
import Derived.Test.YteohkabenbaaaaaFlL
import Derived.BigRegion
namespace Go.Proofs.Yteohkabenbaaaaa
open Go.RowKit

attribute [local go_sem] run_store_float run_store_complex unary_neg_float

/-- Sum and phase. -/
structure SP where
  sr : Nat
  si : Nat
  pr : Nat
  pi : Nat
def SP.step (tr ti : Nat) (s : SP) (amp : Nat) : SP := ⟨fop .add .f64 s.sr (fop .mul .f64 amp s.pr), fop .add .f64 s.si (fop .mul .f64 amp s.pi), tRe s.pr s.pi tr ti, tIm s.pr s.pi tr ti⟩
def stripTo (tr ti : Nat) (xs : List Nat) : SP := xs.foldl (SP.step tr ti) ⟨0, 0, one64, 0⟩
theorem stripTo_snoc (tr ti : Nat) (xs : List Nat) {k : Nat} (hk : k < xs.length) : stripTo tr ti (xs.take (k + 1)) = (stripTo tr ti (xs.take k)).step tr ti (xs.getD k 0) := by
  have : xs.take (k + 1) = xs.take k ++ [xs.getD k 0] := by rw [List.take_add_one]; simp [List.getD, hk]
  rw [this]; simp [stripTo]
def stOk (xs : List Nat) : Bool := decide (xs.length ≤ 60)
def stRe (tr ti : Nat) (xs : List Nat) : Nat := if stOk xs = true then (stripTo tr ti xs).sr else 0
def stIm (tr ti : Nat) (xs : List Nat) : Nat := if stOk xs = true then (stripTo tr ti xs).si else 0

/-- The four boxes of Strip. -/
structure SBox (w W : World) (tr ti a b c d : Nat) : Prop where
  o1 : OwnV W w.heap.size [.float .f64 tr, .float .f64 ti]
  o2 : OwnV W (w.heap.size + 1) [.float .f64 0, .float .f64 0]
  o3 : OwnV W (w.heap.size + 1 + 1) [.float .f64 a, .float .f64 b]
  o4 : OwnV W (w.heap.size + 1 + 1 + 1) [.float .f64 c, .float .f64 d]
  below : Below w.heap.size w W

theorem SBox.step {w W W' : World} {tr ti a b c d : Nat} (h : SBox w W tr ti a b c d) (hb : Below W.heap.size W W') : SBox w W' tr ti a b c d := ⟨h.o1.step hb, h.o2.step hb, h.o3.step hb, h.o4.step hb, Below.step h.below hb⟩

theorem SBox.sum {w W : World} {tr ti a b c d a' b' : Nat} (h : SBox w W tr ti a b c d) : SBox w ((W.setCell ⟨w.heap.size + 1 + 1, 0, none⟩ (.float .f64 a')).setCell ⟨w.heap.size + 1 + 1, 1, none⟩ (.float .f64 b')) tr ti a' b' c d :=
  ⟨(h.o1.other (by show w.heap.size ≠ w.heap.size + 1 + 1; omega) _).other (by show w.heap.size ≠ w.heap.size + 1 + 1; omega) _, (h.o2.other (by show w.heap.size + 1 ≠ w.heap.size + 1 + 1; omega) _).other (by show w.heap.size + 1 ≠ w.heap.size + 1 + 1; omega) _, (h.o3.set 0 _ (by simp)).set 1 _ (by simp),
    (h.o4.other (by show w.heap.size + 1 + 1 + 1 ≠ w.heap.size + 1 + 1; omega) _).other (by show w.heap.size + 1 + 1 + 1 ≠ w.heap.size + 1 + 1; omega) _, (h.below.setCell (p := ⟨w.heap.size + 1 + 1, 0, none⟩) (by show w.heap.size ≤ w.heap.size + 1 + 1; omega) _).setCell (p := ⟨w.heap.size + 1 + 1, 1, none⟩) (by show w.heap.size ≤ w.heap.size + 1 + 1; omega) _⟩

theorem SBox.phase {w W : World} {tr ti a b c d c' d' : Nat} (h : SBox w W tr ti a b c d) : SBox w ((W.setCell ⟨w.heap.size + 1 + 1 + 1, 0, none⟩ (.float .f64 c')).setCell ⟨w.heap.size + 1 + 1 + 1, 1, none⟩ (.float .f64 d')) tr ti a b c' d' :=
  ⟨(h.o1.other (by show w.heap.size ≠ w.heap.size + 1 + 1 + 1; omega) _).other (by show w.heap.size ≠ w.heap.size + 1 + 1 + 1; omega) _, (h.o2.other (by show w.heap.size + 1 ≠ w.heap.size + 1 + 1 + 1; omega) _).other (by show w.heap.size + 1 ≠ w.heap.size + 1 + 1 + 1; omega) _,
    (h.o3.other (by show w.heap.size + 1 + 1 ≠ w.heap.size + 1 + 1 + 1; omega) _).other (by show w.heap.size + 1 + 1 ≠ w.heap.size + 1 + 1 + 1; omega) _, (h.o4.set 0 _ (by simp)).set 1 _ (by simp), (h.below.setCell (p := ⟨w.heap.size + 1 + 1 + 1, 0, none⟩) (by show w.heap.size ≤ w.heap.size + 1 + 1 + 1; omega) _).setCell (p := ⟨w.heap.size + 1 + 1 + 1, 1, none⟩) (by show w.heap.size ≤ w.heap.size + 1 + 1 + 1; omega) _⟩

theorem sbox_new (w : World) (tr ti a b c d : Nat) (t1 t2 t3 t4 : TypeId) : SBox w ((((w.alloc (.cells #[.float .f64 tr, .float .f64 ti] t1)).alloc (.cells #[.float .f64 0, .float .f64 0] t2)).alloc (.cells #[.float .f64 a, .float .f64 b] t3)).alloc (.cells #[.float .f64 c, .float .f64 d] t4)) tr ti a b c d := by
  have B := box6 w (.float .f64 tr) (.float .f64 ti) (.float .f64 0) (.float .f64 0) (.float .f64 a) (.float .f64 b) t1 t2 t3 0
  have h := ownV_alloc (((w.alloc (.cells #[.float .f64 tr, .float .f64 ti] t1)).alloc (.cells #[.float .f64 0, .float .f64 0] t2)).alloc (.cells #[.float .f64 a, .float .f64 b] t3)) #[.float .f64 c, .float .f64 d] t4
  simp only [World.size_alloc] at h
  exact ⟨B.o1.alloc _, B.o2.alloc _, B.o3.alloc _, h, Below.step B.below (Below.alloc1 _ _)⟩

set_option maxRecDepth 10000 in
set_option maxHeartbeats 4000000 in
theorem specStrip_any (v : Value) (xs : List Nat) (tr ti : Nat) (w : World) (h : FlIn w v xs) :
    Calls Try.prog 51 #[v, vW tr ti] w fun e w' => ∃ r s, e = .returned (.tuple #[vW r s, .bool (stOk xs)]) ∧ fsame .f64 r (stRe tr ti xs) ∧ fsame .f64 s (stIm tr ti xs) ∧ Below w.heap.size w w' := by
  have HV := hide h
  obtain ⟨ao, cap, rfl, hl, hm, hc⟩ := h
  unfold maxLen at hm
  have HC := hide hc
  clear hc
  unfold vW
  cases hok : stOk xs with
  | false =>
    have HF : Hid (stRe tr ti xs = 0 ∧ stIm tr ti xs = 0) := by constructor <;> simp [stRe, stIm, hok]
    have h60 : (60 : Int) < xs.length := by simp [stOk] at hok; omega
    go_enter Try.func51, Try.ntmps51
    have B := box6 w (.float .f64 tr) (.float .f64 ti) (.float .f64 0) (.float .f64 0) (.float .f64 0) (.float .f64 0) 32 32 32 0
    have q0 : (((w.alloc (.cells #[.float .f64 tr, .float .f64 ti] 32)).alloc (.cells #[.float .f64 0, .float .f64 0] 32)).alloc (.cells #[.float .f64 0, .float .f64 0] 32)).cell? ⟨w.heap.size + 1, 0, none⟩ = some (.float .f64 0) := B.o2.cell (i := 0) rfl
    have q1 : (((w.alloc (.cells #[.float .f64 tr, .float .f64 ti] 32)).alloc (.cells #[.float .f64 0, .float .f64 0] 32)).alloc (.cells #[.float .f64 0, .float .f64 0] 32)).cell? ⟨w.heap.size + 1, 1, none⟩ = some (.float .f64 0) := B.o2.cell (i := 1) rfl
    have HB := hide B.below
    clear B
    go_wp2
    refine bodyPost_ret (v := .tuple #[vW 0 0, .bool false]) (by simp [results, Try.results51, go_sem, vW, q0, q1]) rfl ⟨0, 0, rfl, by rw [(unhide HF).1]; exact fsame.refl _ _, by rw [(unhide HF).2]; exact fsame.refl _ _, unhide HB⟩
  | true =>
    have HR : Hid (stRe tr ti xs = (stripTo tr ti xs).sr ∧ stIm tr ti xs = (stripTo tr ti xs).si) := by constructor <;> simp [stRe, stIm, hok]
    have h60 : (xs.length : Int) ≤ 60 := by simp [stOk] at hok; omega
    clear hok
    go_enter Try.func51, Try.ntmps51
    have HS0 := hide (sbox_new w tr ti 0 0 one64 0 32 32 32 32)
    go_wp2
    go_loopg [8] xs.length (fun g i wr => ∃ k : Nat, k ≤ xs.length ∧ g = xs.length - k ∧ i = .int .i64 k ∧ ∃ a b c d, fsame .f64 a (stripTo tr ti (xs.take k)).sr ∧ fsame .f64 b (stripTo tr ti (xs.take k)).si ∧ fsame .f64 c (stripTo tr ti (xs.take k)).pr ∧ fsame .f64 d (stripTo tr ti (xs.take k)).pi ∧ Hid (SBox w wr tr ti a b c d))
    case atStart => exact ⟨0, Nat.zero_le _, rfl, rfl, 0, 0, one64, 0, fsame.refl _ _, fsame.refl _ _, fsame.refl _ _, fsame.refl _ _, HS0⟩
    case round =>
      clear HS0
      obtain ⟨k, hk, rfl, rfl, a, b, c, d, ha, hb, hc, hd, HS⟩ := hrel
      by_cases hkn : k < xs.length
      · obtain ⟨bl, o, rfl, hcell⟩ := unhide HC k hkn
        have ES := hide (stripTo_snoc tr ti xs hkn)
        have g0 := ((unhide HS).below.cell (lt_of_cell hcell)).trans hcell
        have hki : (k : Int) < xs.length := by omega
        clear hcell
        generalize xs.getD k 0 = x at *
        generalize stripTo tr ti (xs.take k) = s at *
        have p0 := (unhide HS).o4.cell (i := 0) rfl
        have p1 := (unhide HS).o4.cell (i := 1) rfl
        obtain ⟨r1, n1, hr1, h1⟩ := run_float_any (P := Try.prog) wr.drew .mul (by simp) 30 .f64 x c
        go_wp2
        go_region
        clear hr1
        obtain ⟨V1, e1⟩ : ∃ z, z = wr.drewN (1 + n1) := ⟨_, rfl⟩
        rw [← e1]
        replace HS : Hid (SBox w V1 tr ti a b c d) := by rw [e1]; exact (unhide HS).step (below_drewN (Below.refl _ _) _)
        replace g0 : V1.cell? ⟨bl, o + k, none⟩ = some (.float .f64 x) := by rw [e1]; exact g0
        clear e1 p0 p1
        have p1 := (unhide HS).o4.cell (i := 1) rfl
        obtain ⟨r2, n2, hr2, h2⟩ := run_float_any (P := Try.prog) V1.drew .mul (by simp) 30 .f64 x d
        go_wp2
        go_region
        clear hr2
        obtain ⟨V2, e2⟩ : ∃ z, z = V1.drewN (1 + n2) := ⟨_, rfl⟩
        rw [← e2]
        replace HS : Hid (SBox w V2 tr ti a b c d) := by rw [e2]; exact (unhide HS).step (below_drewN (Below.refl _ _) _)
        clear e2 p1 g0
        have s0 := (unhide HS).o3.cell (i := 0) rfl
        have s1 := (unhide HS).o3.cell (i := 1) rfl
        have f3 := (unhide HS).o3.frozen
        have HT := hide fun V => specTimes_any c d tr ti V
        unfold vW at HT
        have c4 := (unhide HS).o4.cell (i := 0) rfl
        have d4 := (unhide HS).o4.cell (i := 1) rfl
        have c1 := (unhide HS).o1.cell (i := 0) rfl
        have d1 := (unhide HS).o1.cell (i := 1) rfl
        go_wp2_with (first | (refine wpList_float rfl .add _ _ _ _ rfl rfl .f64 a r1 rfl rfl ?_; intro r3 n3 h3) | (refine wpList_float rfl .add _ _ _ _ rfl rfl .f64 b r2 rfl rfl ?_; intro r4 n4 h4))
        have HS3 := hide (SBox.sum (a' := r3) (b' := r4) ((unhide HS).step (below_drewN (Below.refl _ _) (n3 + n4))))
        refine (unhide HT _).mono ?_
        rintro e V3 ⟨r5, r6, rfl, h5, h6, hb3⟩
        replace HS3 := hide ((unhide HS3).step hb3)
        clear hb3 HT HS s0 s1 f3 c4 d4 c1 d1
        have c4 := (unhide HS3).o4.cell (i := 0) rfl
        have d4 := (unhide HS3).o4.cell (i := 1) rfl
        have f4 := (unhide HS3).o4.frozen
        have HS5 := hide (SBox.phase (c' := r5) (d' := r6) (unhide HS3))
        go_wp2
        go_roundg (xs.length - (k + 1))
        case measure => omega
        case rel =>
          refine ⟨k + 1, by omega, rfl, by go_num, r3, r4, r5, r6, ?_, ?_, ?_, ?_, HS5⟩
          · rw [unhide ES]; exact fop_to h3 ha (fop_to h1 (fsame.refl _ _) hc)
          · rw [unhide ES]; exact fop_to h4 hb (fop_to h2 (fsame.refl _ _) hd)
          · rw [unhide ES]; show fsame _ _ (tRe s.pr s.pi tr ti); rw [← tRe_same hc hd (fsame.refl _ tr) (fsame.refl _ ti)]; exact h5
          · rw [unhide ES]; show fsame _ _ (tIm s.pr s.pi tr ti); rw [← tIm_same hc hd (fsame.refl _ tr) (fsame.refl _ ti)]; exact h6
      · have hkk : k = xs.length := by omega
        subst hkk
        rw [List.take_length] at ha hb
        have s0 := (unhide HS).o3.cell (i := 0) rfl
        have s1 := (unhide HS).o3.cell (i := 1) rfl
        have q0 := (unhide HS).o2.cell (i := 0) rfl
        have q1 := (unhide HS).o2.cell (i := 1) rfl
        have f2 := (unhide HS).o2.frozen
        have HB := hide (unhide HS).below
        have hO := ((unhide HS).o2.set 0 (.float .f64 a) (by simp)).set 1 (.float .f64 b) (by simp)
        have k0 := hO.cell (i := 0) rfl
        have k1 := hO.cell (i := 1) rfl
        clear hO
        go_wp2
        refine bodyPost_ret (v := .tuple #[vW a b, .bool true]) (by simp [results, Try.results51, go_sem, vW, k0, k1]) rfl ⟨a, b, rfl, by rw [(unhide HR).1]; exact ha, by rw [(unhide HR).2]; exact hb, ?_⟩
        exact ((unhide HB).setCell (p := ⟨w.heap.size + 1, 0, none⟩) (by show w.heap.size ≤ w.heap.size + 1; omega) _).setCell (p := ⟨w.heap.size + 1, 1, none⟩) (by show w.heap.size ≤ w.heap.size + 1; omega) _

end Go.Proofs.Yteohkabenbaaaaa
