/- Twice the volumes of the strips as a plain function; the contracts of the program's stripHalves and Strips2. -/
import Derived.Test.YticcjdcglfiggaaWalkH
import Derived.Deep.RegionHeld3
namespace Go.Proofs.Yticcjdcglfiggaa
open Go.RowKit

def halvesF (R : List (List Int)) (s k : Nat) : Int := cellOf R s k + cellOf R (s + 1) k + cellOf R s (k + 1) + cellOf R (s + 1) (k + 1)

theorem halvesF_bd {step rise : Int} {R : List (List Int)} (h : Right step rise R) {s c : Nat} (hs : s + 1 < R.length) (hc : c < (R.getD 0 []).length) : ∀ k, k < c → 0 ≤ halvesF R s k ∧ halvesF R s k ≤ 200 := fun k hk => by
  have a1 := h.cells s k (by omega) (by omega)
  have a2 := h.cells (s + 1) k (by omega) (by omega)
  have a3 := h.cells s (k + 1) (by omega) (by omega)
  have a4 := h.cells (s + 1) (k + 1) (by omega) (by omega)
  unfold halvesF
  omega

def stripH (R : List (List Int)) (c s : Nat) : Int := sumTo (halvesF R s) c

theorem stripH_bd {step rise : Int} {R : List (List Int)} (h : Right step rise R) {s c : Nat} (hs : s + 1 < R.length) (hc : c < (R.getD 0 []).length) : 0 ≤ stripH R c s ∧ stripH R c s ≤ 2000 := by
  have := sumTo_bd (halvesF_bd h hs hc) c (Nat.le_refl _)
  have := h.wat2
  unfold stripH
  omega

set_option maxHeartbeats 1600000 in
theorem stripHalves_any (step rise : Int) (v : Value) (R : List (List Int)) (s c : Int) (k j : Nat) (w : World) (h : RowsIn w v R) (es : s = k) (ec : c = j) (hR : Right step rise R) (hk : k + 1 < R.length) (hj : j < (R.getD 0 []).length) :
    Calls Try.prog 57 #[hullV step rise v, .int .i64 s, .int .i64 c] w fun e w' => e = .returned (.int .i64 (stripH R j k)) ∧ Below w.heap.size w w' := by
  subst es ec
  have HV := hide h
  obtain ⟨ao, cap, rfl, hl, hm, hc⟩ := h
  unfold maxLen at hm
  clear hc
  unfold hullV
  have HB0 := hide (box3_alloc w (.int .i64 step) (.int .i64 rise) (.slice ao R.length cap) 26)
  have HW0 := hide (Below.alloc1 w (.cells #[.int .i64 step, .int .i64 rise, .slice ao R.length cap] 26))
  obtain ⟨W, eW⟩ : ∃ W, W = w.alloc (.cells #[.int .i64 step, .int .i64 rise, .slice ao R.length cap] 26) := ⟨_, rfl⟩
  rw [← eW] at HB0 HW0
  have EW := hide eW
  clear eW
  have hjb : j ≤ 10 := by have := hR.wat2; omega
  have HR := hide hR
  have HK := hide hk
  have HJ := hide hj
  clear hR hk hj
  go_enter Try.func57, Try.ntmps57
  go_wp2
  rw [← unhide EW]
  go_loopg [7, 14] j (fun g sv i wr => ∃ q : Nat, q ≤ j ∧ g = j - q ∧ i = .int .i64 q ∧ sv = .int .i64 (sumTo (halvesF R k) q) ∧ Below W.heap.size W wr)
  case atStart => exact ⟨0, by omega, rfl, rfl, rfl, Below.refl _ _⟩
  case round =>
    obtain ⟨q, hq, rfl, rfl, rfl, hB⟩ := hrel
    have HBX := (unhide HB0).step hB
    have HBX' := hide HBX
    have HWr := hide (Below.step (unhide HW0) hB)
    have HBr := hide hB
    obtain ⟨c0, c1, c2⟩ := HBX
    clear hB
    by_cases hqj : q < j
    · have hk' := unhide HK
      have hj' := unhide HJ
      have ev := (unhide HR).even
      have HT := hide (bothHalves_any step rise _ R (k : Int) (q : Int) k q wr ((unhide HV).below (unhide HWr)) rfl rfl hk' (by rw [ev k (by omega)]; omega) (by rw [ev (k + 1) hk']; omega))
      have HT2 := hide fun W' (hb : Below wr.heap.size wr W') => bothHalves_any step rise _ R (k : Int) ((q : Int) + 1) k (q + 1) W' ((unhide HV).below (Below.step (unhide HWr) hb)) rfl (by omega) hk' (by rw [ev k (by omega)]; omega) (by rw [ev (k + 1) hk']; omega)
      have sb := sumTo_bd (halvesF_bd (unhide HR) hk' hj') q (by omega)
      have xb := (unhide HR).cells k q (by omega) (by omega)
      have yb := (unhide HR).cells (k + 1) q hk' (by omega)
      have zb := (unhide HR).cells k (q + 1) (by omega) (by omega)
      have ub := (unhide HR).cells (k + 1) (q + 1) hk' (by omega)
      have ES : Hid (sumTo (halvesF R k) (q + 1) = sumTo (halvesF R k) q + (cellOf R k q + cellOf R (k + 1) q + cellOf R k (q + 1) + cellOf R (k + 1) (q + 1))) := rfl
      clear ev hj' hk'
      generalize cellOf R k q = x at *
      generalize cellOf R (k + 1) q = y at *
      generalize cellOf R k (q + 1) = z at *
      generalize cellOf R (k + 1) (q + 1) = u at *
      generalize sumTo (halvesF R k) q = S at *
      obtain ⟨sb1, sb2⟩ := sb
      obtain ⟨xb1, xb2⟩ := xb
      obtain ⟨yb1, yb2⟩ := yb
      obtain ⟨zb1, zb2⟩ := zb
      obtain ⟨ub1, ub2⟩ := ub
      go_wp2_with fail
      refine (unhide HT).mono ?_
      rintro e w3 ⟨rfl, hb⟩
      obtain ⟨d0, d1, d2⟩ := (unhide HBX').step hb
      have HB3 := hide (Below.step (unhide HBr) hb)
      have HT3 := hide (unhide HT2 w3 hb)
      clear hb c0 c1 c2 HT HT2
      go_wp2_with fail
      refine (unhide HT3).mono ?_
      rintro e w4 ⟨rfl, hb⟩
      have HB4 := hide (Below.step (unhide HB3) hb)
      clear hb d0 d1 d2 HT3
      go_wp2
      go_roundg (j - (q + 1))
      case measure => omega
      case rel => exact ⟨q + 1, by omega, rfl, by go_num, by rw [unhide ES], unhide HB4⟩
    · go_wp2
      go_ret
      have hqq : q = j := by omega
      exact ⟨ret_int (by rw [hqq]; rfl), unhide HWr⟩

/-- Twice the volume of a strip up to a water line. -/
def strip2 (step rise : Int) (R : List (List Int)) (c s : Nat) : Int := rise * step * stripH R c s

theorem strip2_bd {step rise : Int} {R : List (List Int)} (h : Right step rise R) {s c : Nat} (hs : s + 1 < R.length) (hc : c < (R.getD 0 []).length) :
    (0 ≤ rise * step ∧ rise * step ≤ 2000) ∧ (0 ≤ rise * step * stripH R c s ∧ rise * step * stripH R c s ≤ 4000000) := by
  have a := mul_bd (A := 20) (B := 100) (by have := h.rise1; omega) h.rise2 (by have := h.step1; omega) h.step2
  have b := stripH_bd h hs hc
  have d := mul_bd (A := 2000) (B := 2000) a.1 (by omega) b.1 b.2
  exact ⟨⟨a.1, by omega⟩, ⟨d.1, by omega⟩⟩

def strips (step rise : Int) (R : List (List Int)) (c : Int) : List Int := if waterOk step rise R c = true then (List.range (R.length - 1)).map (strip2 step rise R c.toNat) else []

/-- A slice that the call itself made: its block, where it has an element, lies from B on. -/
def OwnSl (B : Nat) (w : World) (v : Value) (xs : List Int) : Prop :=
  ∃ ao cap, v = .slice ao xs.length cap ∧ xs.length ≤ cap ∧ cap ≤ maxLen ∧ (xs ≠ [] → ∃ g, ao = some ⟨g, 0, none⟩ ∧ B ≤ g ∧ OwnV w g (ints xs))

theorem OwnSl.intsIn {B : Nat} {w : World} {v : Value} {xs : List Int} (h : OwnSl B w v xs) : IntsIn w v xs := by
  obtain ⟨ao, cap, rfl, h1, h2, h3⟩ := h
  refine ⟨ao, cap, rfl, h1, h2, fun i hi => ?_⟩
  obtain ⟨g, rfl, _, ho⟩ := h3 (fun e => by rw [e] at hi; simp at hi)
  exact ⟨g, 0, rfl, by rw [Nat.zero_add]; exact ho.cell (ints_get xs hi)⟩

theorem OwnSl.below {B : Nat} {w w' : World} {v : Value} {xs : List Int} (h : OwnSl B w v xs) (hb : Below w.heap.size w w') : OwnSl B w' v xs := by
  obtain ⟨ao, cap, rfl, h1, h2, h3⟩ := h
  refine ⟨ao, cap, rfl, h1, h2, fun hne => ?_⟩
  obtain ⟨g, rfl, hg, ho⟩ := h3 hne
  exact ⟨g, rfl, hg, ho.below hb ho.lt⟩

theorem OwnSl.mono {B B' : Nat} {w : World} {v : Value} {xs : List Int} (h : OwnSl B w v xs) (hB : B' ≤ B) : OwnSl B' w v xs := by
  obtain ⟨ao, cap, rfl, h1, h2, h3⟩ := h
  refine ⟨ao, cap, rfl, h1, h2, fun hne => ?_⟩
  obtain ⟨g, rfl, hg, ho⟩ := h3 hne
  exact ⟨g, rfl, Nat.le_trans hB hg, ho⟩

/-- The new list of strips, k of its n cells filled. -/
structure FillS (w wr : World) (f : Nat → Int) (n k : Nat) : Prop where
  below : Below w.heap.size w wr
  row : wr.rowIs w.heap.size 3 n (fun i => if i < k then .int .i64 (f i) else .int .i64 0)

theorem fillS_start (w : World) (f : Nat → Int) (n : Nat) : FillS w (w.alloc (.cells (madeCells #[.int .i64 0] n) 3)) f n 0 :=
  ⟨(Below.refl _ _).alloc (Nat.le_refl _) _, (World.rowIs_made w _ n 3).congr (fun j _ => by simp)⟩

theorem fillS_step {w wr w1 : World} {f : Nat → Int} {n k : Nat} (h : FillS w wr f n k) (hb : Below wr.heap.size wr w1) : FillS w (w1.setCell ⟨w.heap.size, k, none⟩ (.int .i64 (f k))) f n (k + 1) := by
  refine ⟨(Below.step h.below hb).setCell (Nat.le_refl _) _, ((h.row.of_block (hb.block _ h.row.lt)).set k _).congr (fun i _ => ?_)⟩
  by_cases e : i = k
  · subst e; simp
  · rw [if_neg e]
    by_cases hlt : i < k
    · rw [if_pos hlt, if_pos (by omega)]
    · rw [if_neg hlt, if_neg (by omega)]

theorem fillS_done {w wr : World} {f : Nat → Int} {n : Nat} (h : FillS w wr f n n) (hn : n ≤ maxLen) : OwnSl w.heap.size wr (.slice (some ⟨w.heap.size, 0, none⟩) n n) ((List.range n).map f) := by
  refine ⟨_, n, by simp, by simp, hn, fun _ => ⟨_, rfl, Nat.le_refl _, ?_⟩⟩
  exact rowIs_ownV h.row (by simp [ints]) (fun i hi => by rw [if_pos hi]; simp [ints, hi])

end Go.Proofs.Yticcjdcglfiggaa
