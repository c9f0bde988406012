/- The contract of the comparison within Near6. -/
import Derived.Test.YtoonbidopdflkaaImN1
namespace Go.Proofs.Ytoonbidopdflkaa
open Go.RowKit

def cmpF (x y : Int) (f g : FeatureT) : Int := orI (cmpI (nrAt f x y) (nrAt g x y)) (cmpI f.1 g.1)
/-- What the comparison of two features keeps. -/
structure N2 (w : World) (px py pa : Nat) (x y : Int) (fv : Value) (A B : List Value) (V : World) : Prop where
  bd : Bd w V
  oa : OwnV V w.heap.size A
  ob : OwnV V (w.heap.size + 1) B
  cx : V.cell? ⟨px, 0, none⟩ = some (.int .i64 x)
  cy : V.cell? ⟨py, 0, none⟩ = some (.int .i64 y)
  ca : V.cell? ⟨pa, 0, none⟩ = some fv
theorem N2.step {w V V' : World} {px py pa : Nat} {x y : Int} {fv : Value} {A B : List Value} (h : N2 w px py pa x y fv A B V) (hb : Bd V V') : N2 w px py pa x y fv A B V' :=
  ⟨h.bd.trans hb, h.oa.step hb.below, h.ob.step hb.below, wcell3 h.cx hb.below, wcell3 h.cy hb.below, wcell3 h.ca hb.below⟩
theorem bd_drew (V : World) : Bd V V.drew := (Bd.refl V).drewN 1

set_option maxRecDepth 10000 in
set_option maxHeartbeats 6400000 in
theorem cmpNear_any (x0 x1 x2 x3 : Int) (x4 : ByteArray) (y0 y1 y2 y3 : Int) (y4 : ByteArray) (x y : Int) (px py pa : Nat) (w : World) (h2 : 0 ≤ x2 ∧ x2 ≤ 11) (h3 : 0 ≤ x3 ∧ x3 ≤ 11) (k2 : 0 ≤ y2 ∧ y2 ≤ 11) (k3 : 0 ≤ y3 ∧ y3 ≤ 11) (hx : 0 ≤ x ∧ x ≤ 11) (hy : 0 ≤ y ∧ y ≤ 11) (hpx : w.cell? ⟨px, 0, none⟩ = some (.int .i64 x)) (hpy : w.cell? ⟨py, 0, none⟩ = some (.int .i64 y)) (hpa : w.cell? ⟨pa, 0, none⟩ = some (.func (.func 66) #[] #[.pointer (some ⟨px, 0, none⟩), .pointer (some ⟨py, 0, none⟩)])) :
    Calls Try.prog 70 #[vFeature x0 x1 x2 x3 x4, vFeature y0 y1 y2 y3 y4, .pointer (some ⟨pa, 0, none⟩)] w fun e w' => e = .returned (.int .i64 (cmpF x y (x0, x1, x2, x3, x4) (y0, y1, y2, y3, y4))) ∧ Bd w w' := by
  have B0 := ((Bd.refl w).alloc (.cells #[.int .i64 x0, .int .i64 x1, .int .i64 x2, .int .i64 x3, .string x4] 95)).alloc (.cells #[.int .i64 y0, .int .i64 y1, .int .i64 y2, .int .i64 y3, .string y4] 95)
  have OA := (ownV_alloc w #[.int .i64 x0, .int .i64 x1, .int .i64 x2, .int .i64 x3, .string x4] 95).alloc (.cells #[.int .i64 y0, .int .i64 y1, .int .i64 y2, .int .i64 y3, .string y4] 95)
  have OB := ownV_alloc (w.alloc (.cells #[.int .i64 x0, .int .i64 x1, .int .i64 x2, .int .i64 x3, .string x4] 95)) #[.int .i64 y0, .int .i64 y1, .int .i64 y2, .int .i64 y3, .string y4] 95
  simp only [World.size_alloc] at OB
  have HN0 := hide (show N2 w px py pa x y _ _ _ _ from ⟨B0, OA, OB, wcell3 hpx B0.below, wcell3 hpy B0.below, wcell3 hpa B0.below⟩)
  have HA1 := hide fun V (h1 : V.cell? ⟨px, 0, none⟩ = some (.int .i64 x)) (h2' : V.cell? ⟨py, 0, none⟩ = some (.int .i64 y)) => away_any x0 x1 x2 x3 x4 x y px py V h2 h3 hx hy h1 h2'
  have HA2 := hide fun V (h1 : V.cell? ⟨px, 0, none⟩ = some (.int .i64 x)) (h2' : V.cell? ⟨py, 0, none⟩ = some (.int .i64 y)) => away_any y0 y1 y2 y3 y4 x y px py V k2 k3 hx hy h1 h2'
  obtain ⟨R, eR⟩ : ∃ R, R = cmpF x y (x0, x1, x2, x3, x4) (y0, y1, y2, y3, y4) := ⟨_, rfl⟩
  rw [← eR]
  have ER : Hid (orI (cmpI (nrAt (x0, x1, x2, x3, x4) x y) (nrAt (y0, y1, y2, y3, y4) x y)) (cmpI x0 y0) = R) := eR.symm
  obtain ⟨n1, e1⟩ : ∃ n, n = nrAt (x0, x1, x2, x3, x4) x y := ⟨_, rfl⟩
  obtain ⟨n2, e2⟩ : ∃ n, n = nrAt (y0, y1, y2, y3, y4) x y := ⟨_, rfl⟩
  rw [← e1, ← e2] at ER
  rw [← e1] at HA1
  rw [← e2] at HA2
  have HC1 := hide fun V => cmpInt_any n1 n2 V
  have HC2 := hide fun V => cmpInt_any x0 y0 V
  obtain ⟨c1, ec1⟩ : ∃ n, n = cmpI n1 n2 := ⟨_, rfl⟩
  obtain ⟨c2, ec2⟩ : ∃ n, n = cmpI x0 y0 := ⟨_, rfl⟩
  rw [← ec1] at HC1 ER
  rw [← ec2] at HC2 ER
  have HO := hide fun V g h => orInt_any c1 c2 g V h
  rw [unhide ER] at HO
  clear eR e1 e2 ec1 ec2 B0 OA OB hpx hpy hpa ER h2 h3 k2 k3 hx hy
  unfold vFeature at HA1 HA2 ⊢
  go_enter Try.func70, Try.ntmps70
  go_wp2_with fail
  obtain ⟨V0, e0⟩ : ∃ z, z = (w.alloc (.cells #[.int .i64 x0, .int .i64 x1, .int .i64 x2, .int .i64 x3, .string x4] 95)).alloc (.cells #[.int .i64 y0, .int .i64 y1, .int .i64 y2, .int .i64 y3, .string y4] 95) := ⟨_, rfl⟩
  rw [← e0] at HN0 ⊢
  clear e0
  have HN := HN0
  clear HN0
  have c0 := (unhide HN).ca
  have a0 := (unhide HN).oa.cell (i := 0) rfl
  have a1 := (unhide HN).oa.cell (i := 1) rfl
  have a2 := (unhide HN).oa.cell (i := 2) rfl
  have a3 := (unhide HN).oa.cell (i := 3) rfl
  have a4 := (unhide HN).oa.cell (i := 4) rfl
  have b0 := (unhide HN).ob.cell (i := 0) rfl
  have b1 := (unhide HN).ob.cell (i := 1) rfl
  have b2 := (unhide HN).ob.cell (i := 2) rfl
  have b3 := (unhide HN).ob.cell (i := 3) rfl
  have b4 := (unhide HN).ob.cell (i := 4) rfl
  go_region_held3 (fun w' => w'.cell? ⟨pa, 0, none⟩ = some (.func (.func 66) #[] #[.pointer (some ⟨px, 0, none⟩), .pointer (some ⟨py, 0, none⟩)]) ∧ w'.cell? ⟨w.heap.size, 0, none⟩ = some (.int .i64 x0) ∧ w'.cell? ⟨w.heap.size, 1, none⟩ = some (.int .i64 x1) ∧ w'.cell? ⟨w.heap.size, 2, none⟩ = some (.int .i64 x2) ∧ w'.cell? ⟨w.heap.size, 3, none⟩ = some (.int .i64 x3) ∧ w'.cell? ⟨w.heap.size, 4, none⟩ = some (.string x4) ∧ w'.cell? ⟨w.heap.size + 1, 0, none⟩ = some (.int .i64 y0) ∧ w'.cell? ⟨w.heap.size + 1, 1, none⟩ = some (.int .i64 y1) ∧ w'.cell? ⟨w.heap.size + 1, 2, none⟩ = some (.int .i64 y2) ∧ w'.cell? ⟨w.heap.size + 1, 3, none⟩ = some (.int .i64 y3) ∧ w'.cell? ⟨w.heap.size + 1, 4, none⟩ = some (.string y4)) (go_keep) (first
    | (go_at_call 72; first | (refine (unhide HC1 _).mono ?_; rintro e w' ⟨rfl, h9⟩; have h8 := h9.symm; subst h8; clear h9 HC1) | (refine (unhide HC2 _).mono ?_; rintro e w' ⟨rfl, h9⟩; have h8 := h9.symm; subst h8; clear h9))
    | (go_at_call 71; refine (unhide HO _ _ (ownV_alloc _ #[.int .i64 c1, .int .i64 c2] 3)).mono ?_; rintro e wz ⟨rfl, hb⟩; have HN' := hide (((unhide HN).step ((Bd.refl _).alloc _)).step hb); replace HN := HN'; clear HN' hb; have f0 := (unhide HN).ca; have f1 := (unhide HN).oa.cell (i := 0) rfl; have f2 := (unhide HN).oa.cell (i := 1) rfl; have f3 := (unhide HN).oa.cell (i := 2) rfl; have f4 := (unhide HN).oa.cell (i := 3) rfl; have f5 := (unhide HN).oa.cell (i := 4) rfl; have f6 := (unhide HN).ob.cell (i := 0) rfl; have f7 := (unhide HN).ob.cell (i := 1) rfl; have f8 := (unhide HN).ob.cell (i := 2) rfl; have f9 := (unhide HN).ob.cell (i := 3) rfl; have f10 := (unhide HN).ob.cell (i := 4) rfl)
    | (go_at_call 66; (first | (refine (unhide HA1 _ ((unhide HN).step (bd_drew _)).cx ((unhide HN).step (bd_drew _)).cy).mono ?_; clear HA1) | refine (unhide HA2 _ (unhide HN).cx (unhide HN).cy).mono ?_); rintro e wt ⟨rfl, hb⟩; (first | (have HN' := hide ((unhide HN).step ((bd_drew _).trans hb))) | (have HN' := hide ((unhide HN).step hb))); replace HN := HN'; clear HN' hb; have f0 := (unhide HN).ca; have f1 := (unhide HN).oa.cell (i := 0) rfl; have f2 := (unhide HN).oa.cell (i := 1) rfl; have f3 := (unhide HN).oa.cell (i := 2) rfl; have f4 := (unhide HN).oa.cell (i := 3) rfl; have f5 := (unhide HN).oa.cell (i := 4) rfl; have f6 := (unhide HN).ob.cell (i := 0) rfl; have f7 := (unhide HN).ob.cell (i := 1) rfl; have f8 := (unhide HN).ob.cell (i := 2) rfl; have f9 := (unhide HN).ob.cell (i := 3) rfl; have f10 := (unhide HN).ob.cell (i := 4) rfl))
  clear c0 a0 a1 a2 a3 a4 b0 b1 b2 b3 b4
  go_wp2
  go_ret
  exact ⟨rfl, (unhide HN).bd⟩

end Go.Proofs.Ytoonbidopdflkaa
