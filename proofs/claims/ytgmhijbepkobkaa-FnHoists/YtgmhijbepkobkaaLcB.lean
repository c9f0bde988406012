/- The cursor over a draw's bytes with its place and its number told: what l1Byte, l1Below, l1PickInt, l1New tell exactly. No statement about the program stands here. -/
import Derived.Test.YtgmhijbepkobkaaLcA
import Derived.Test.YtgmhijbepkobkaaDrE
import Derived.Deep.DeepCutAuto
import Derived.Deep.Cut
import Derived.BigRegion
import Derived.Deep.RegionHeld3
namespace Go.Proofs.Ytgmhijbepkobkaa
open Go.RowKit

abbrev KC (cb : Nat) (w W : World) : Prop := Kept (fun b => b = cb) w W
theorem Kept.own {T P : Nat → Prop} {w W V : World} (h : Kept T w W) (k : Kept P W V) (hp : ∀ b, P b → w.heap.size ≤ b) : Kept T w V :=
  ⟨k.os.trans h.os, k.tape.trans h.tape, k.output.trans h.output, Nat.le_trans h.size k.size, fun i hi ht => (k.block i (Nat.lt_of_lt_of_le hi h.size) (fun hb => by have := hp i hb; omega)).trans (h.block i hi ht)⟩
theorem kept1 (W : World) (g j : Nat) (x : Value) : Kept (fun b => b = g) W (W.setCell ⟨g, j, none⟩ x) := Kept.setCell (T := fun b => b = g) (Kept.refl _ W) (p := ⟨g, j, none⟩) rfl x

/-- THE CURSOR in block cb, its place i among n bytes, its number h. -/
def CurX (w : World) (cb : Nat) (v : Value) (n i : Nat) (h : Int) : Prop := BytesIn cb w v n ∧ i ≤ n ∧ OwnV w cb [v, .int .i64 (i : Int), .int .i64 h]
/-- One byte is drawn: the place goes on while there are bytes, and behind them the byte follows from the number. -/
def StX (n i : Nat) (h k x : Int) (i' : Nat) : Prop := i ≤ i' ∧ i' ≤ n ∧ (i < n → i < i') ∧ (i = n → x = lbV (lcg h) % k)
section
variable {w w' : World} {cb n i i' : Nat} {v : Value} {h k x : Int}
theorem CurX.cur (c : CurX w cb v n i h) : Cur w cb v n := ⟨c.1, i, h, by omega, by have := c.2.1; omega, c.2.2⟩
theorem CurX.le (c : CurX w cb v n i h) : i ≤ n := c.2.1
theorem CurX.lt (c : CurX w cb v n i h) : cb < w.heap.size := c.2.2.lt
theorem CurX.kept {T : Nat → Prop} (c : CurX w cb v n i h) (hk : Kept T w w') (hT : ∀ b, T b → cb < b) : CurX w' cb v n i h :=
  ⟨c.1.below (hk.below (Nat.le_of_lt c.2.2.lt) (fun b hb => Nat.le_of_lt (hT b hb))) (Nat.le_refl _), c.2.1, c.2.2.kept hk (fun hb => by have := hT cb hb; omega)⟩
theorem CurX.below (c : CurX w cb v n i h) (hb : Below w.heap.size w w') : CurX w' cb v n i h := c.kept (T := fun _ => False) (kept_of_below hb) (fun _ h => h.elim)
end
theorem and255_mod (a : Int) (h0 : 0 ≤ a) (h1 : a ≤ 255) : a % 256 = a := by omega

set_option maxHeartbeats 800000 in
theorem l1Byte_x (cb n i : Nat) (v : Value) (hh : Int) (w : World) (h : CurX w cb v n i hh) :
    Calls Try.prog 62 #[.pointer (some ⟨cb, 0, none⟩)] w fun e w' => ∃ x i', e = .returned (.int .i64 x) ∧ 0 ≤ x ∧ x ≤ 255 ∧ (i ≤ i' ∧ i' ≤ n ∧ (i < n → i < i') ∧ (i = n → x = lbV (lcg hh))) ∧ CurX w' cb v n i' (lcg hh) ∧ KC cb w w' := by
  obtain ⟨hB, hin, hO⟩ := h
  have HB := hide hB
  obtain ⟨ao, cap, rfl, hl, hm, hc⟩ := hB
  unfold maxLen at hm
  have c0 := hO.cell (i := 0) rfl
  have c1 := hO.cell (i := 1) rfl
  have c2 := hO.cell (i := 2) rfl
  have f1 := hO.frozen 1
  have f2 := hO.frozen 2
  have HO := hide hO
  clear hc hO
  go_enter Try.func62, Try.ntmps62
  go_wp2
  have e9 : wrap64 (wrap64 (hh * 6364136223846793005) + 1442695040888963407) = lcg hh := rfl
  rw [e9]
  clear e9
  obtain ⟨h2, eh2⟩ : ∃ h2, h2 = lcg hh := ⟨_, rfl⟩
  rw [← eh2]
  have HH2 := hide eh2
  clear eh2
  obtain ⟨W1, eW⟩ : ∃ W, W = w.setCell ⟨cb, 2, none⟩ (.int .i64 h2) := ⟨_, rfl⟩
  rw [← eW]
  have hO1 : OwnV W1 cb [.slice ao n cap, .int .i64 (i : Int), .int .i64 h2] := by rw [eW]; exact (unhide HO).set 2 _ (by simp)
  have HK1 : Hid (Kept (fun b => b = cb) w W1) := by show Kept _ _ _; rw [eW]; exact (Kept.refl (fun b => b = cb) w).setCell (p := ⟨cb, 2, none⟩) rfl _
  have HB1 : Hid (BytesIn cb W1 (.slice ao n cap) n) := (unhide HB).below ((unhide HK1).below (Nat.le_of_lt hO1.lt |> fun h => by rw [eW] at h; simpa [World.setCell] using h) (fun b e => by omega)) (Nat.le_refl _)
  clear c0 c1 c2 f1 f2 eW
  have c0 := hO1.cell (i := 0) rfl
  have c1 := hO1.cell (i := 1) rfl
  have c2 := hO1.cell (i := 2) rfl
  have f1 := hO1.frozen 1
  have HO1 := hide hO1
  clear hO1
  go_quiet (fail)
  go_wp2
  have hx := and255 (bits BinOp.xor IntKind.i64 (h2 / 8589934592) (h2 / 35184372088832))
  obtain ⟨z0, ez0⟩ : ∃ z0, z0 = lbV h2 := ⟨_, rfl⟩
  have hz : bits BinOp.and IntKind.i64 (bits BinOp.xor IntKind.i64 (h2 / 8589934592) (h2 / 35184372088832)) 255 = z0 := ez0.symm
  rw [unhide HH2] at ez0
  have HZ := hide ez0
  clear ez0
  rw [hz] at hx
  try rw [hz]
  try rw [hz]
  generalize bits BinOp.and IntKind.i64 (bits BinOp.xor IntKind.i64 (h2 / 8589934592) (h2 / 35184372088832)) 255 = x0 at *
  subst hz
  generalize bits BinOp.xor IntKind.i64 (h2 / 8589934592) (h2 / 35184372088832) = x1 at *
  obtain ⟨hx1, hx2⟩ := hx
  by_cases hjn : i < n
  · have hjn' : (i : Int) < (n : Int) := by omega
    obtain ⟨ao', cap', ev, _, _, hcs⟩ := unhide HB1
    simp only [Value.slice.injEq, true_and] at ev
    obtain ⟨rfl, rfl⟩ := ev
    obtain ⟨b, o, y, rfl, hlt, hcell, hy1, hy2⟩ := hcs i hjn
    clear hcs
    go_quiet (fail)
    go_wp2
    go_quiet (fail)
    have hz := and255 (x0 + y)
    generalize bits BinOp.and IntKind.i64 (x0 + y) 255 = z at *
    obtain ⟨hz1, hz2⟩ := hz
    go_wp2
    go_ret
    obtain rfl : h2 = lcg hh := unhide HH2
    refine ⟨z, i + 1, rfl, hz1, hz2, ⟨by omega, by omega, fun _ => by omega, fun e => absurd e (by omega)⟩, ?_, ((unhide HK1).trans (kept_of_below (drewN_below _ _ _))).setCell rfl _⟩
    refine ⟨(unhide HB1).below ((drewN_below cb W1 _).setCell (Nat.le_refl _) _) (Nat.le_refl _), by omega, ?_⟩
    have h1 : ∀ q, OwnV (W1.drewN q) cb [.slice (some ⟨b, o, none⟩) n cap, .int .i64 (i : Int), .int .i64 (lcg hh)] := fun _ => unhide HO1
    exact (h1 _).set 1 _ (by simp)
  · have hjn' : decide ((i : Int) < (n : Int)) = false := by simp; omega
    go_quiet (fail)
    go_wp2
    go_ret
    obtain rfl : h2 = lcg hh := unhide HH2
    refine ⟨x0, i, rfl, hx1, hx2, ⟨by omega, by omega, fun e => absurd e (by omega), fun _ => ?_⟩, ?_, ((unhide HK1).trans (kept_of_below (drewN_below _ _ _))).trans (kept_of_below (drewN_below _ _ _))⟩
    · exact unhide HZ
    · have hcur : CurX W1 cb (.slice ao n cap) n i (lcg hh) := ⟨unhide HB1, hin, unhide HO1⟩
      exact (hcur.below (drewN_below _ _ _)).below (drewN_below _ _ _)

set_option maxHeartbeats 800000 in
theorem l1Below_x (cb n i : Nat) (v : Value) (hh k : Int) (w : World) (h : CurX w cb v n i hh) (hk0 : 1 ≤ k) (hk1 : k ≤ 256) :
    Calls Try.prog 52 #[.pointer (some ⟨cb, 0, none⟩), .int .i64 k] w fun e w' => ∃ x i', e = .returned (.int .i64 x) ∧ 0 ≤ x ∧ x < k ∧ StX n i hh k x i' ∧ CurX w' cb v n i' (lcg hh) ∧ KC cb w w' := by
  have HB := hide (l1Byte_x cb n i v hh w h)
  clear h
  go_enter Try.func52, Try.ntmps52
  go_wp2_with fail
  refine (unhide HB).mono ?_
  rintro e w1 ⟨x, i', rfl, hx0, hx1, hs, hc, hK⟩
  have HC := hide hc
  have HK := hide hK
  have HS := hide hs
  clear hc hK hs HB
  go_wp2
  go_ret
  obtain ⟨a1, a2, a3, a4⟩ := unhide HS
  exact ⟨_, i', rfl, Int.emod_nonneg _ (by omega), Int.emod_lt_of_pos _ (by omega), ⟨a1, a2, a3, fun e => by rw [a4 e]⟩, unhide HC, unhide HK⟩

set_option maxHeartbeats 800000 in
theorem l1PickInt_x (cb n i : Nat) (v : Value) (hh : Int) (g m : Nat) (xs : List Int) (w : World) (h : CurX w cb v n i hh) (hx : OwnV w g (ints xs)) (hg : g ≠ cb) (hm : xs.length = m) (hm0 : 1 ≤ m) (hm1 : m ≤ 256) :
    Calls Try.prog 61 #[.pointer (some ⟨cb, 0, none⟩), .slice (some ⟨g, 0, none⟩) m m] w fun e w' => ∃ (j : Nat) (i' : Nat), e = .returned (.int .i64 (xs.getD j 0)) ∧ j < m ∧ StX n i hh m j i' ∧ CurX w' cb v n i' (lcg hh) ∧ KC cb w w' := by
  have HB := hide (l1Below_x cb n i v hh m w h (by omega) (by omega))
  have HX := hide hx
  have HM := hide hm
  clear h hx hm
  go_enter Try.func61, Try.ntmps61
  go_wp2_with fail
  refine (unhide HB).mono ?_
  rintro e w1 ⟨x, i', rfl, hx0, hx1, hs, hc, hk⟩
  have HC := hide hc
  have HK := hide hk
  obtain ⟨j, rfl⟩ : ∃ j : Nat, x = (j : Int) := ⟨x.toNat, by omega⟩
  have HS := hide hs
  have cj := ((unhide HX).kept hk hg).cell (ints_get xs (i := j) (by rw [unhide HM]; omega))
  obtain ⟨y, ey⟩ : ∃ y, y = xs.getD j 0 := ⟨_, rfl⟩
  rw [← ey] at cj
  have HY := hide ey
  clear hc hk ey hs
  go_wp2
  go_ret
  exact ⟨j, i', by rw [unhide HY]; rfl, by omega, unhide HS, unhide HC, unhide HK⟩

theorem Cur.exact {w : World} {cb n : Nat} {v : Value} (h : Cur w cb v n) : ∃ i hh, CurX w cb v n i hh := by
  obtain ⟨hB, i, hh, h0, h1, hO⟩ := h
  obtain ⟨j, rfl⟩ := Int.eq_ofNat_of_zero_le h0
  exact ⟨j, hh, hB, by omega, hO⟩

end Go.Proofs.Ytgmhijbepkobkaa
