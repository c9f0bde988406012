/- What is drawn for FnClosest and FnDuties: two ships that are right. Written by wip/mkcle.py. No statement about the program stands here. -/
import Derived.Test.YtcljgaofpeaplaaClD
namespace Go.Proofs.Ytcljgaofpeaplaa
open Go.RowKit

theorem bytes_mono {B B' : Nat} {w : World} {v : Value} {n : Nat} (h : BytesIn B w v n) (hB : B ≤ B') : BytesIn B' w v n := by
  obtain ⟨ao, cap, e, h1, h2, h3⟩ := h
  exact ⟨ao, cap, e, h1, h2, fun i hi => by
    obtain ⟨b, o, x, e1, e2, r⟩ := h3 i hi
    exact ⟨b, o, x, e1, by omega, r⟩⟩

set_option maxRecDepth 100000 in
set_option maxHeartbeats 8000000 in
theorem l8DrawPair_any (cb n : Nat) (v : Value) (w : World) (h : Cur w cb v n) (hn : n ≤ 1048576) :
    Calls Try.prog 15 #[.pointer (some ⟨cb, 0, none⟩)] w fun e w' => ∃ X Y U V K D X' Y' U' V' K' D', e = .returned (.tuple #[vShip X Y U V K D, vShip X' Y' U' V' K' D']) ∧ Cur w' cb v n ∧ KC cb w w' := by
  have QB := hide fun W (hW : Cur W cb v n) k h0 h1 => l1BelowV_any cb n v k W hW hn h0 h1
  have QO := hide fun W (hW : Cur W cb v n) k h0 h1 => l1Once_any cb n v k W hW hn h0 h1
  have QD := hide fun W (hW : Cur W cb v n) => l8DrawAny_any cb n v W hW hn
  have hcb := h.lt
  have A1 := Below.alloc1 w (.cells #[.int .i64 0, .int .i64 0, .int .i64 0, .int .i64 0, .int .i64 0, .int .i64 0] 25)
  have HG := hide (ownV_alloc w #[.int .i64 0, .int .i64 0, .int .i64 0, .int .i64 0, .int .i64 0, .int .i64 0] 25)
  obtain ⟨Va, eVa⟩ : ∃ V, V = w.alloc (.cells #[.int .i64 0, .int .i64 0, .int .i64 0, .int .i64 0, .int .i64 0, .int .i64 0] 25) := ⟨_, rfl⟩
  rw [← eVa] at A1 HG
  have hsa : Va.heap.size = w.heap.size + 1 := by rw [eVa, World.size_alloc]
  have A2 := Below.alloc1 Va (.cells #[.int .i64 0, .int .i64 0, .int .i64 0, .int .i64 0, .int .i64 0, .int .i64 0] 25)
  have HJ := hide (ownV_alloc Va #[.int .i64 0, .int .i64 0, .int .i64 0, .int .i64 0, .int .i64 0, .int .i64 0] 25)
  obtain ⟨V0, eV0⟩ : ∃ V, V = Va.alloc (.cells #[.int .i64 0, .int .i64 0, .int .i64 0, .int .i64 0, .int .i64 0, .int .i64 0] 25) := ⟨_, rfl⟩
  rw [← eV0] at A2 HJ
  replace HG := hide ((unhide HG).step A2)
  have hA := Below.step A1 A2
  have hs0 : V0.heap.size = w.heap.size + 2 := by rw [eV0, World.size_alloc, hsa]
  rw [hsa] at HJ
  obtain ⟨g2, eg2⟩ : ∃ g, g = w.heap.size := ⟨_, rfl⟩
  obtain ⟨g3, eg3⟩ : ∃ g, g = w.heap.size + 1 := ⟨_, rfl⟩
  rw [← eg2] at HG
  rw [← eg3] at HJ
  have hg2w : w.heap.size ≤ g2 := by omega
  have hg23 : g2 < g3 := by omega
  have hg3V : g3 < V0.heap.size := by omega
  have HC := hide (h.below hA)
  have HK := hide (kept_of_below (T := fun b => b = cb) hA)
  have hg2 : cb < g2 := by omega
  clear h hA A1 A2 hs0
  go_enter Try.func15, Try.ntmps15
  go_wp2_with fail
  rw [← eVa, ← eV0, ← eg3, ← eg2]
  clear eVa eV0 eg2 eg3 hsa
  refine (unhide QD _ (unhide HC)).mono ?_
  rintro e W1 ⟨X, Y, U, Vy, K, D, rfl, hC, hK⟩
  have hz1 := hK.size
  replace HC := hide hC
  replace HG := hide ((unhide HG).kept hK (fun e => by have e : g2 = cb := e; omega))
  replace HJ := hide ((unhide HJ).kept hK (fun e => by have e : g3 = cb := e; omega))
  replace HK := hide ((unhide HK).trans hK)
  clear hC hK
  go_wp2_with fail
  refine (unhide QD _ (unhide HC)).mono ?_
  rintro e W2 ⟨X', Y', U', Vy', K', D', rfl, hC, hK⟩
  have hz2 := hK.size
  replace HC := hide hC
  replace HG := hide ((unhide HG).kept hK (fun e => by have e : g2 = cb := e; omega))
  replace HJ := hide ((unhide HJ).kept hK (fun e => by have e : g3 = cb := e; omega))
  replace HK := hide ((unhide HK).trans hK)
  clear hC hK
  unfold vShip
  obtain ⟨ga, ega⟩ : ∃ q, q = W2.heap.size := ⟨_, rfl⟩
  obtain ⟨gb, egb⟩ : ∃ q, q = W2.heap.size + 1 := ⟨_, rfl⟩
  have hg3a : g3 < ga := by omega
  have hab : ga < gb := by omega
  obtain ⟨V4, eV4⟩ : ∃ Vq, Vq = W2.alloc (.cells #[.int .i64 X, .int .i64 Y, .int .i64 U, .int .i64 Vy, .int .i64 K, .int .i64 D] 25) := ⟨_, rfl⟩
  have hA4 : Below W2.heap.size W2 V4 := by rw [eV4]; exact Below.alloc1 _ _
  have hs4 : V4.heap.size = W2.heap.size + 1 := by rw [eV4, World.size_alloc]
  have HAa : Hid (OwnV V4 ga [.int .i64 X, .int .i64 Y, .int .i64 U, .int .i64 Vy, .int .i64 K, .int .i64 D]) := by show OwnV _ _ _; rw [eV4, ega]; exact ownV_alloc _ _ _
  obtain ⟨V5, eV5⟩ : ∃ Vq, Vq = V4.alloc (.cells #[.int .i64 X', .int .i64 Y', .int .i64 U', .int .i64 Vy', .int .i64 K', .int .i64 D'] 25) := ⟨_, rfl⟩
  have hA5 : Below V4.heap.size V4 V5 := by rw [eV5]; exact Below.alloc1 _ _
  have HBb : Hid (OwnV V5 gb [.int .i64 X', .int .i64 Y', .int .i64 U', .int .i64 Vy', .int .i64 K', .int .i64 D']) := by show OwnV _ _ _; rw [eV5, egb, ← hs4]; exact ownV_alloc _ _ _
  replace HAa := hide ((unhide HAa).step hA5)
  have hA6 := Below.step hA4 hA5
  replace HG := hide ((unhide HG).step hA6)
  replace HJ := hide ((unhide HJ).step hA6)
  replace HC := hide ((unhide HC).below hA6)
  replace HK := hide ((unhide HK).trans (kept_of_below hA6))
  go_upto_region 2 with (fail)
  rw [← eV4, ← eV5, ← egb, ← ega]
  clear eV4 eV5 ega egb hA4 hA5 hA6 hs4 hz1 hz2 hg3V QD
  go_wp2_with fail
  refine (unhide QB _ (unhide HC) 6 (by omega) (by omega)).mono ?_
  rintro e W3 ⟨x, rfl, hx0, hx1, hC, hK⟩
  replace HC := hide hC
  replace HG := hide ((unhide HG).kept hK (fun e => by have e : g2 = cb := e; omega))
  replace HJ := hide ((unhide HJ).kept hK (fun e => by have e : g3 = cb := e; omega))
  replace HAa := hide ((unhide HAa).kept hK (fun e => by have e : ga = cb := e; omega))
  replace HBb := hide ((unhide HBb).kept hK (fun e => by have e : gb = cb := e; omega))
  replace HK := hide ((unhide HK).trans hK)
  clear hC hK
  by_cases e0 : x = 0
  case pos =>
    subst e0
    clear hx0 hx1
    go_upto_region 4 with (fail)
    have l2 := (unhide HAa).cell (i := 2) rfl
    have s9 := (unhide HBb).cell (i := 2) rfl
    have sf := (unhide HBb).frozen 2
    obtain ⟨Ya, eWn⟩ : ∃ Wq, Wq = W3.setCell ⟨gb, 2, none⟩ (.int .i64 (wrap64 (-U))) := ⟨_, rfl⟩
    have hkp := kept1 W3 gb 2 (.int .i64 (wrap64 (-U)))
    rw [← eWn] at hkp
    replace HBb : Hid (OwnV Ya gb [.int .i64 X', .int .i64 Y', .int .i64 (wrap64 (-U)), .int .i64 Vy', .int .i64 K', .int .i64 D']) := by show OwnV _ _ _; rw [eWn]; exact (unhide HBb).set 2 _ (by simp)
    replace HG := hide ((unhide HG).kept hkp (fun e => by have e : g2 = gb := e; omega))
    replace HJ := hide ((unhide HJ).kept hkp (fun e => by have e : g3 = gb := e; omega))
    replace HAa := hide ((unhide HAa).kept hkp (fun e => by have e : ga = gb := e; omega))
    replace HC := hide ((unhide HC).kept hkp (fun b hb => by have hb : b = gb := hb; omega))
    replace HK := hide ((unhide HK).own hkp (fun b hb => by have hb : b = gb := hb; omega))
    go_upto_region 5 with (fail)
    rw [← eWn]
    clear eWn hkp s9 sf
    obtain ⟨za, ezz⟩ : ∃ z, z = wrap64 (-U) := ⟨_, rfl⟩
    rw [← ezz] at HBb
    clear ezz
    clear l2
    have l3 := (unhide HAa).cell (i := 3) rfl
    have s9 := (unhide HBb).cell (i := 3) rfl
    have sf := (unhide HBb).frozen 3
    obtain ⟨Yb, eWn⟩ : ∃ Wq, Wq = Ya.setCell ⟨gb, 3, none⟩ (.int .i64 (wrap64 (-Vy))) := ⟨_, rfl⟩
    have hkp := kept1 Ya gb 3 (.int .i64 (wrap64 (-Vy)))
    rw [← eWn] at hkp
    replace HBb : Hid (OwnV Yb gb [.int .i64 X', .int .i64 Y', .int .i64 za, .int .i64 (wrap64 (-Vy)), .int .i64 K', .int .i64 D']) := by show OwnV _ _ _; rw [eWn]; exact (unhide HBb).set 3 _ (by simp)
    replace HG := hide ((unhide HG).kept hkp (fun e => by have e : g2 = gb := e; omega))
    replace HJ := hide ((unhide HJ).kept hkp (fun e => by have e : g3 = gb := e; omega))
    replace HAa := hide ((unhide HAa).kept hkp (fun e => by have e : ga = gb := e; omega))
    replace HC := hide ((unhide HC).kept hkp (fun b hb => by have hb : b = gb := hb; omega))
    replace HK := hide ((unhide HK).own hkp (fun b hb => by have hb : b = gb := hb; omega))
    go_upto_region 6 with (fail)
    rw [← eWn]
    clear eWn hkp s9 sf
    obtain ⟨zb, ezz⟩ : ∃ z, z = wrap64 (-Vy) := ⟨_, rfl⟩
    rw [← ezz] at HBb
    clear ezz
    clear l3
    have l0 := (unhide HAa).cell (i := 0) rfl
    have l2 := (unhide HAa).cell (i := 2) rfl
    have s9 := (unhide HBb).cell (i := 0) rfl
    have sf := (unhide HBb).frozen 0
    obtain ⟨Yc, eWn⟩ : ∃ Wq, Wq = Yb.setCell ⟨gb, 0, none⟩ (.int .i64 (wrap64 (X + wrap64 (8 * U)))) := ⟨_, rfl⟩
    have hkp := kept1 Yb gb 0 (.int .i64 (wrap64 (X + wrap64 (8 * U))))
    rw [← eWn] at hkp
    replace HBb : Hid (OwnV Yc gb [.int .i64 (wrap64 (X + wrap64 (8 * U))), .int .i64 Y', .int .i64 za, .int .i64 zb, .int .i64 K', .int .i64 D']) := by show OwnV _ _ _; rw [eWn]; exact (unhide HBb).set 0 _ (by simp)
    replace HG := hide ((unhide HG).kept hkp (fun e => by have e : g2 = gb := e; omega))
    replace HJ := hide ((unhide HJ).kept hkp (fun e => by have e : g3 = gb := e; omega))
    replace HAa := hide ((unhide HAa).kept hkp (fun e => by have e : ga = gb := e; omega))
    replace HC := hide ((unhide HC).kept hkp (fun b hb => by have hb : b = gb := hb; omega))
    replace HK := hide ((unhide HK).own hkp (fun b hb => by have hb : b = gb := hb; omega))
    go_upto_region 7 with (fail)
    rw [← eWn]
    clear eWn hkp s9 sf
    obtain ⟨zc, ezz⟩ : ∃ z, z = wrap64 (X + wrap64 (8 * U)) := ⟨_, rfl⟩
    rw [← ezz] at HBb
    clear ezz
    clear l0 l2
    have l1 := (unhide HAa).cell (i := 1) rfl
    have l3 := (unhide HAa).cell (i := 3) rfl
    have s9 := (unhide HBb).cell (i := 1) rfl
    have sf := (unhide HBb).frozen 1
    go_wp2
    have hd : Below Yc.heap.size Yc Yc.drew := (Below.refl _ _).drew
    replace HG := hide ((unhide HG).step hd)
    replace HJ := hide ((unhide HJ).step hd)
    replace HAa := hide ((unhide HAa).step hd)
    replace HBb := hide ((unhide HBb).step hd)
    replace HC := hide ((unhide HC).below hd)
    replace HK := hide ((unhide HK).trans (kept_of_below hd))
    clear hd s9 sf
    clear l1 l3
    have l1 := (unhide HAa).cell (i := 1) rfl
    have l3 := (unhide HAa).cell (i := 3) rfl
    have s9 := (unhide HBb).cell (i := 1) rfl
    have sf := (unhide HBb).frozen 1
    go_region_held3 (fun w' => w'.cell? ⟨ga, 1, none⟩ = some (.int .i64 Y) ∧ w'.cell? ⟨ga, 3, none⟩ = some (.int .i64 Vy)) (first | go_keep | exact ⟨((unhide HAa).kept (kept1 _ gb 1 _) (fun e => by have e : ga = gb := e; omega)).cell (i := 1) rfl, ((unhide HAa).kept (kept1 _ gb 1 _) (fun e => by have e : ga = gb := e; omega)).cell (i := 3) rfl⟩) (first
      | (go_at_call 34; refine (unhide QB _ (unhide HC) 3 (by omega) (by omega)).mono ?_; rintro e Ydc ⟨zdu, rfl, hzdu0, hzdu1, hC, hK⟩; replace HC := hide hC; replace HG := hide ((unhide HG).kept hK (fun e => by have e : g2 = cb := e; omega)); replace HJ := hide ((unhide HJ).kept hK (fun e => by have e : g3 = cb := e; omega)); replace HAa := hide ((unhide HAa).kept hK (fun e => by have e : ga = cb := e; omega)); replace HBb := hide ((unhide HBb).kept hK (fun e => by have e : gb = cb := e; omega)); replace HK := hide ((unhide HK).trans hK); clear hC hK l1 l3 s9 sf; have l1 := (unhide HAa).cell (i := 1) rfl; have l3 := (unhide HAa).cell (i := 3) rfl; have s9 := (unhide HBb).cell (i := 1) rfl; have sf := (unhide HBb).frozen 1))
    clear l1 l3
    clear s9 sf
    obtain ⟨Yd, eWn⟩ : ∃ Wq, Wq = Ydc.setCell ⟨gb, 1, none⟩ (.int .i64 (IntKind.i64.wrap (IntKind.i64.wrap (IntKind.i64.wrap (Y + IntKind.i64.wrap (8 * Vy)) + zdu) - 1))) := ⟨_, rfl⟩
    have hkp := kept1 Ydc gb 1 (.int .i64 (IntKind.i64.wrap (IntKind.i64.wrap (IntKind.i64.wrap (Y + IntKind.i64.wrap (8 * Vy)) + zdu) - 1)))
    rw [← eWn] at hkp
    replace HBb : Hid (OwnV Yd gb [.int .i64 zc, .int .i64 (IntKind.i64.wrap (IntKind.i64.wrap (IntKind.i64.wrap (Y + IntKind.i64.wrap (8 * Vy)) + zdu) - 1)), .int .i64 za, .int .i64 zb, .int .i64 K', .int .i64 D']) := by show OwnV _ _ _; rw [eWn]; exact (unhide HBb).set 1 _ (by simp)
    replace HG := hide ((unhide HG).kept hkp (fun e => by have e : g2 = gb := e; omega))
    replace HJ := hide ((unhide HJ).kept hkp (fun e => by have e : g3 = gb := e; omega))
    replace HAa := hide ((unhide HAa).kept hkp (fun e => by have e : ga = gb := e; omega))
    replace HC := hide ((unhide HC).kept hkp (fun b hb => by have hb : b = gb := hb; omega))
    replace HK := hide ((unhide HK).own hkp (fun b hb => by have hb : b = gb := hb; omega))
    rw [← eWn]
    clear eWn hkp
    obtain ⟨zd, ezz⟩ : ∃ z, z = IntKind.i64.wrap (IntKind.i64.wrap (IntKind.i64.wrap (Y + IntKind.i64.wrap (8 * Vy)) + zdu) - 1) := ⟨_, rfl⟩
    rw [← ezz] at HBb
    clear ezz
    go_upto_region 16 with (fail)
    go_wp2_with fail
    refine (unhide QO _ (unhide HC) 2 (by omega) (by omega)).mono ?_
    rintro e Wo ⟨b, rfl, hC, hK⟩
    replace HC := hide hC
    replace HG := hide ((unhide HG).kept hK (fun e => by have e : g2 = cb := e; omega))
    replace HJ := hide ((unhide HJ).kept hK (fun e => by have e : g3 = cb := e; omega))
    replace HAa := hide ((unhide HAa).kept hK (fun e => by have e : ga = cb := e; omega))
    replace HBb := hide ((unhide HBb).kept hK (fun e => by have e : gb = cb := e; omega))
    replace HK := hide ((unhide HK).trans hK)
    clear hC hK
    cases b with
    | false =>
      go_upto_region 18 with (fail)
      have p0 := (unhide HAa).cell (i := 0) rfl
      have p1 := (unhide HAa).cell (i := 1) rfl
      have p2 := (unhide HAa).cell (i := 2) rfl
      have p3 := (unhide HAa).cell (i := 3) rfl
      have p4 := (unhide HAa).cell (i := 4) rfl
      have p5 := (unhide HAa).cell (i := 5) rfl
      have q0 := (unhide HBb).cell (i := 0) rfl
      have q1 := (unhide HBb).cell (i := 1) rfl
      have q2 := (unhide HBb).cell (i := 2) rfl
      have q3 := (unhide HBb).cell (i := 3) rfl
      have q4 := (unhide HBb).cell (i := 4) rfl
      have q5 := (unhide HBb).cell (i := 5) rfl
      have c0 := (unhide HG).cell (i := 0) rfl
      have cf0 := (unhide HG).frozen 0
      have c1 := (unhide HG).cell (i := 1) rfl
      have cf1 := (unhide HG).frozen 1
      have c2 := (unhide HG).cell (i := 2) rfl
      have cf2 := (unhide HG).frozen 2
      have c3 := (unhide HG).cell (i := 3) rfl
      have cf3 := (unhide HG).frozen 3
      have c4 := (unhide HG).cell (i := 4) rfl
      have cf4 := (unhide HG).frozen 4
      have c5 := (unhide HG).cell (i := 5) rfl
      have cf5 := (unhide HG).frozen 5
      have d0 := (unhide HJ).cell (i := 0) rfl
      have df0 := (unhide HJ).frozen 0
      have d1 := (unhide HJ).cell (i := 1) rfl
      have df1 := (unhide HJ).frozen 1
      have d2 := (unhide HJ).cell (i := 2) rfl
      have df2 := (unhide HJ).frozen 2
      have d3 := (unhide HJ).cell (i := 3) rfl
      have df3 := (unhide HJ).frozen 3
      have d4 := (unhide HJ).cell (i := 4) rfl
      have df4 := (unhide HJ).frozen 4
      have d5 := (unhide HJ).cell (i := 5) rfl
      have df5 := (unhide HJ).frozen 5
      obtain ⟨V8, eV8⟩ : ∃ Vq, Vq = (((((Wo.setCell ⟨g2, 0, none⟩ (.int .i64 X)).setCell ⟨g2, 1, none⟩ (.int .i64 Y)).setCell ⟨g2, 2, none⟩ (.int .i64 U)).setCell ⟨g2, 3, none⟩ (.int .i64 Vy)).setCell ⟨g2, 4, none⟩ (.int .i64 K)).setCell ⟨g2, 5, none⟩ (.int .i64 D) := ⟨_, rfl⟩
      obtain ⟨V9, eV9⟩ : ∃ Vq, Vq = (((((V8.setCell ⟨g3, 0, none⟩ (.int .i64 zc)).setCell ⟨g3, 1, none⟩ (.int .i64 zd)).setCell ⟨g3, 2, none⟩ (.int .i64 za)).setCell ⟨g3, 3, none⟩ (.int .i64 zb)).setCell ⟨g3, 4, none⟩ (.int .i64 K')).setCell ⟨g3, 5, none⟩ (.int .i64 D') := ⟨_, rfl⟩
      have hk8 : Kept (fun b => b = g2) Wo V8 := by rw [eV8]; exact kept6 _ _ (X) (Y) (U) (Vy) (K) (D)
      have hk9 : Kept (fun b => b = g3) V8 V9 := by rw [eV9]; exact kept6 _ _ (zc) (zd) (za) (zb) (K') (D')
      have hd : Below V9.heap.size V9 V9.drew := (Below.refl _ _).drew
      have HG8 : Hid (OwnV V8 g2 [.int .i64 X, .int .i64 Y, .int .i64 U, .int .i64 Vy, .int .i64 K, .int .i64 D]) := by show OwnV _ _ _; rw [eV8]; exact own6 (unhide HG) (X) (Y) (U) (Vy) (K) (D)
      replace HJ := hide ((unhide HJ).kept hk8 (fun e => by have e : g3 = g2 := e; omega))
      have HJ9 : Hid (OwnV V9 g3 [.int .i64 zc, .int .i64 zd, .int .i64 za, .int .i64 zb, .int .i64 K', .int .i64 D']) := by show OwnV _ _ _; rw [eV9]; exact own6 (unhide HJ) (zc) (zd) (za) (zb) (K') (D')
      have HG9 := hide (((unhide HG8).kept hk9 (fun e => by have e : g2 = g3 := e; omega)).step hd)
      replace HJ9 := hide ((unhide HJ9).step hd)
      have HC9 := hide ((((unhide HC).kept hk8 (fun b hb => by have hb : b = g2 := hb; omega)).kept hk9 (fun b hb => by have hb : b = g3 := hb; omega)).below hd)
      have HK9 := hide ((((unhide HK).own hk8 (fun b hb => by have hb : b = g2 := hb; omega)).own hk9 (fun b hb => by have hb : b = g3 := hb; omega)).trans (kept_of_below hd))
      go_region
      rw [← eV8, ← eV9]
      clear eV8 eV9 hk8 hk9 hd HG8
      generalize V9.drew = V10 at *
      go_wp2
      have k0 := (unhide HG9).cell (i := 0) rfl
      have m0 := (unhide HJ9).cell (i := 0) rfl
      have k1 := (unhide HG9).cell (i := 1) rfl
      have m1 := (unhide HJ9).cell (i := 1) rfl
      have k2 := (unhide HG9).cell (i := 2) rfl
      have m2 := (unhide HJ9).cell (i := 2) rfl
      have k3 := (unhide HG9).cell (i := 3) rfl
      have m3 := (unhide HJ9).cell (i := 3) rfl
      have k4 := (unhide HG9).cell (i := 4) rfl
      have m4 := (unhide HJ9).cell (i := 4) rfl
      have k5 := (unhide HG9).cell (i := 5) rfl
      have m5 := (unhide HJ9).cell (i := 5) rfl
      refine bodyPost_ret (v := .tuple #[vShip (X) (Y) (U) (Vy) (K) (D), vShip (zc) (zd) (za) (zb) (K') (D')]) (by simp [results, Try.results15, go_sem, vShip, k0, k1, k2, k3, k4, k5, m0, m1, m2, m3, m4, m5]) rfl ⟨_, _, _, _, _, _, _, _, _, _, _, _, rfl, unhide HC9, unhide HK9⟩
    | true =>
      have l4 := (unhide HAa).cell (i := 4) rfl
      have s9 := (unhide HBb).cell (i := 4) rfl
      have sf := (unhide HBb).frozen 4
      obtain ⟨Wk, eWn⟩ : ∃ Wq, Wq = Wo.setCell ⟨gb, 4, none⟩ (.int .i64 (K)) := ⟨_, rfl⟩
      have hkp := kept1 Wo gb 4 (.int .i64 (K))
      rw [← eWn] at hkp
      replace HBb : Hid (OwnV Wk gb [.int .i64 zc, .int .i64 zd, .int .i64 za, .int .i64 zb, .int .i64 (K), .int .i64 D']) := by show OwnV _ _ _; rw [eWn]; exact (unhide HBb).set 4 _ (by simp)
      replace HG := hide ((unhide HG).kept hkp (fun e => by have e : g2 = gb := e; omega))
      replace HJ := hide ((unhide HJ).kept hkp (fun e => by have e : g3 = gb := e; omega))
      replace HAa := hide ((unhide HAa).kept hkp (fun e => by have e : ga = gb := e; omega))
      replace HC := hide ((unhide HC).kept hkp (fun b hb => by have hb : b = gb := hb; omega))
      replace HK := hide ((unhide HK).own hkp (fun b hb => by have hb : b = gb := hb; omega))
      go_upto_region 18 with (fail)
      rw [← eWn]
      clear eWn hkp s9 sf
      obtain ⟨zk, ezz⟩ : ∃ z, z = K := ⟨_, rfl⟩
      rw [← ezz] at HBb
      clear ezz
      clear l4
      have p0 := (unhide HAa).cell (i := 0) rfl
      have p1 := (unhide HAa).cell (i := 1) rfl
      have p2 := (unhide HAa).cell (i := 2) rfl
      have p3 := (unhide HAa).cell (i := 3) rfl
      have p4 := (unhide HAa).cell (i := 4) rfl
      have p5 := (unhide HAa).cell (i := 5) rfl
      have q0 := (unhide HBb).cell (i := 0) rfl
      have q1 := (unhide HBb).cell (i := 1) rfl
      have q2 := (unhide HBb).cell (i := 2) rfl
      have q3 := (unhide HBb).cell (i := 3) rfl
      have q4 := (unhide HBb).cell (i := 4) rfl
      have q5 := (unhide HBb).cell (i := 5) rfl
      have c0 := (unhide HG).cell (i := 0) rfl
      have cf0 := (unhide HG).frozen 0
      have c1 := (unhide HG).cell (i := 1) rfl
      have cf1 := (unhide HG).frozen 1
      have c2 := (unhide HG).cell (i := 2) rfl
      have cf2 := (unhide HG).frozen 2
      have c3 := (unhide HG).cell (i := 3) rfl
      have cf3 := (unhide HG).frozen 3
      have c4 := (unhide HG).cell (i := 4) rfl
      have cf4 := (unhide HG).frozen 4
      have c5 := (unhide HG).cell (i := 5) rfl
      have cf5 := (unhide HG).frozen 5
      have d0 := (unhide HJ).cell (i := 0) rfl
      have df0 := (unhide HJ).frozen 0
      have d1 := (unhide HJ).cell (i := 1) rfl
      have df1 := (unhide HJ).frozen 1
      have d2 := (unhide HJ).cell (i := 2) rfl
      have df2 := (unhide HJ).frozen 2
      have d3 := (unhide HJ).cell (i := 3) rfl
      have df3 := (unhide HJ).frozen 3
      have d4 := (unhide HJ).cell (i := 4) rfl
      have df4 := (unhide HJ).frozen 4
      have d5 := (unhide HJ).cell (i := 5) rfl
      have df5 := (unhide HJ).frozen 5
      obtain ⟨V8, eV8⟩ : ∃ Vq, Vq = (((((Wk.setCell ⟨g2, 0, none⟩ (.int .i64 X)).setCell ⟨g2, 1, none⟩ (.int .i64 Y)).setCell ⟨g2, 2, none⟩ (.int .i64 U)).setCell ⟨g2, 3, none⟩ (.int .i64 Vy)).setCell ⟨g2, 4, none⟩ (.int .i64 K)).setCell ⟨g2, 5, none⟩ (.int .i64 D) := ⟨_, rfl⟩
      obtain ⟨V9, eV9⟩ : ∃ Vq, Vq = (((((V8.setCell ⟨g3, 0, none⟩ (.int .i64 zc)).setCell ⟨g3, 1, none⟩ (.int .i64 zd)).setCell ⟨g3, 2, none⟩ (.int .i64 za)).setCell ⟨g3, 3, none⟩ (.int .i64 zb)).setCell ⟨g3, 4, none⟩ (.int .i64 zk)).setCell ⟨g3, 5, none⟩ (.int .i64 D') := ⟨_, rfl⟩
      have hk8 : Kept (fun b => b = g2) Wk V8 := by rw [eV8]; exact kept6 _ _ (X) (Y) (U) (Vy) (K) (D)
      have hk9 : Kept (fun b => b = g3) V8 V9 := by rw [eV9]; exact kept6 _ _ (zc) (zd) (za) (zb) (zk) (D')
      have hd : Below V9.heap.size V9 V9.drew := (Below.refl _ _).drew
      have HG8 : Hid (OwnV V8 g2 [.int .i64 X, .int .i64 Y, .int .i64 U, .int .i64 Vy, .int .i64 K, .int .i64 D]) := by show OwnV _ _ _; rw [eV8]; exact own6 (unhide HG) (X) (Y) (U) (Vy) (K) (D)
      replace HJ := hide ((unhide HJ).kept hk8 (fun e => by have e : g3 = g2 := e; omega))
      have HJ9 : Hid (OwnV V9 g3 [.int .i64 zc, .int .i64 zd, .int .i64 za, .int .i64 zb, .int .i64 zk, .int .i64 D']) := by show OwnV _ _ _; rw [eV9]; exact own6 (unhide HJ) (zc) (zd) (za) (zb) (zk) (D')
      have HG9 := hide (((unhide HG8).kept hk9 (fun e => by have e : g2 = g3 := e; omega)).step hd)
      replace HJ9 := hide ((unhide HJ9).step hd)
      have HC9 := hide ((((unhide HC).kept hk8 (fun b hb => by have hb : b = g2 := hb; omega)).kept hk9 (fun b hb => by have hb : b = g3 := hb; omega)).below hd)
      have HK9 := hide ((((unhide HK).own hk8 (fun b hb => by have hb : b = g2 := hb; omega)).own hk9 (fun b hb => by have hb : b = g3 := hb; omega)).trans (kept_of_below hd))
      go_region
      rw [← eV8, ← eV9]
      clear eV8 eV9 hk8 hk9 hd HG8
      generalize V9.drew = V10 at *
      go_wp2
      have k0 := (unhide HG9).cell (i := 0) rfl
      have m0 := (unhide HJ9).cell (i := 0) rfl
      have k1 := (unhide HG9).cell (i := 1) rfl
      have m1 := (unhide HJ9).cell (i := 1) rfl
      have k2 := (unhide HG9).cell (i := 2) rfl
      have m2 := (unhide HJ9).cell (i := 2) rfl
      have k3 := (unhide HG9).cell (i := 3) rfl
      have m3 := (unhide HJ9).cell (i := 3) rfl
      have k4 := (unhide HG9).cell (i := 4) rfl
      have m4 := (unhide HJ9).cell (i := 4) rfl
      have k5 := (unhide HG9).cell (i := 5) rfl
      have m5 := (unhide HJ9).cell (i := 5) rfl
      refine bodyPost_ret (v := .tuple #[vShip (X) (Y) (U) (Vy) (K) (D), vShip (zc) (zd) (za) (zb) (zk) (D')]) (by simp [results, Try.results15, go_sem, vShip, k0, k1, k2, k3, k4, k5, m0, m1, m2, m3, m4, m5]) rfl ⟨_, _, _, _, _, _, _, _, _, _, _, _, rfl, unhide HC9, unhide HK9⟩
  have d0 : (x == 0) = false := by simp [e0]
  by_cases e1 : x = 1
  case pos =>
    subst e1
    clear hx0 hx1
    go_upto_region 9 with (fail)
    have l0 := (unhide HAa).cell (i := 0) rfl
    have l2 := (unhide HAa).cell (i := 2) rfl
    have s9 := (unhide HBb).cell (i := 0) rfl
    have sf := (unhide HBb).frozen 0
    go_wp2
    have hd : Below W3.heap.size W3 W3.drew := (Below.refl _ _).drew
    replace HG := hide ((unhide HG).step hd)
    replace HJ := hide ((unhide HJ).step hd)
    replace HAa := hide ((unhide HAa).step hd)
    replace HBb := hide ((unhide HBb).step hd)
    replace HC := hide ((unhide HC).below hd)
    replace HK := hide ((unhide HK).trans (kept_of_below hd))
    clear hd s9 sf
    clear l0 l2
    have l0 := (unhide HAa).cell (i := 0) rfl
    have l2 := (unhide HAa).cell (i := 2) rfl
    have s9 := (unhide HBb).cell (i := 0) rfl
    have sf := (unhide HBb).frozen 0
    go_region_held3 (fun w' => w'.cell? ⟨ga, 0, none⟩ = some (.int .i64 X) ∧ w'.cell? ⟨ga, 2, none⟩ = some (.int .i64 U)) (first | go_keep | exact ⟨((unhide HAa).kept (kept1 _ gb 0 _) (fun e => by have e : ga = gb := e; omega)).cell (i := 0) rfl, ((unhide HAa).kept (kept1 _ gb 0 _) (fun e => by have e : ga = gb := e; omega)).cell (i := 2) rfl⟩) (first
      | (go_at_call 34; refine (unhide QB _ (unhide HC) 5 (by omega) (by omega)).mono ?_; rintro e Yac ⟨zau, rfl, hzau0, hzau1, hC, hK⟩; replace HC := hide hC; replace HG := hide ((unhide HG).kept hK (fun e => by have e : g2 = cb := e; omega)); replace HJ := hide ((unhide HJ).kept hK (fun e => by have e : g3 = cb := e; omega)); replace HAa := hide ((unhide HAa).kept hK (fun e => by have e : ga = cb := e; omega)); replace HBb := hide ((unhide HBb).kept hK (fun e => by have e : gb = cb := e; omega)); replace HK := hide ((unhide HK).trans hK); clear hC hK l0 l2 s9 sf; have l0 := (unhide HAa).cell (i := 0) rfl; have l2 := (unhide HAa).cell (i := 2) rfl; have s9 := (unhide HBb).cell (i := 0) rfl; have sf := (unhide HBb).frozen 0))
    clear l0 l2
    clear s9 sf
    obtain ⟨Ya, eWn⟩ : ∃ Wq, Wq = Yac.setCell ⟨gb, 0, none⟩ (.int .i64 (IntKind.i64.wrap (IntKind.i64.wrap (IntKind.i64.wrap (X + IntKind.i64.wrap (6 * U)) + zau) - 2))) := ⟨_, rfl⟩
    have hkp := kept1 Yac gb 0 (.int .i64 (IntKind.i64.wrap (IntKind.i64.wrap (IntKind.i64.wrap (X + IntKind.i64.wrap (6 * U)) + zau) - 2)))
    rw [← eWn] at hkp
    replace HBb : Hid (OwnV Ya gb [.int .i64 (IntKind.i64.wrap (IntKind.i64.wrap (IntKind.i64.wrap (X + IntKind.i64.wrap (6 * U)) + zau) - 2)), .int .i64 Y', .int .i64 U', .int .i64 Vy', .int .i64 K', .int .i64 D']) := by show OwnV _ _ _; rw [eWn]; exact (unhide HBb).set 0 _ (by simp)
    replace HG := hide ((unhide HG).kept hkp (fun e => by have e : g2 = gb := e; omega))
    replace HJ := hide ((unhide HJ).kept hkp (fun e => by have e : g3 = gb := e; omega))
    replace HAa := hide ((unhide HAa).kept hkp (fun e => by have e : ga = gb := e; omega))
    replace HC := hide ((unhide HC).kept hkp (fun b hb => by have hb : b = gb := hb; omega))
    replace HK := hide ((unhide HK).own hkp (fun b hb => by have hb : b = gb := hb; omega))
    rw [← eWn]
    clear eWn hkp
    obtain ⟨za, ezz⟩ : ∃ z, z = IntKind.i64.wrap (IntKind.i64.wrap (IntKind.i64.wrap (X + IntKind.i64.wrap (6 * U)) + zau) - 2) := ⟨_, rfl⟩
    rw [← ezz] at HBb
    clear ezz
    go_upto_region 10 with (fail)
    have l1 := (unhide HAa).cell (i := 1) rfl
    have l3 := (unhide HAa).cell (i := 3) rfl
    have s9 := (unhide HBb).cell (i := 1) rfl
    have sf := (unhide HBb).frozen 1
    go_wp2
    have hd : Below Ya.heap.size Ya Ya.drew := (Below.refl _ _).drew
    replace HG := hide ((unhide HG).step hd)
    replace HJ := hide ((unhide HJ).step hd)
    replace HAa := hide ((unhide HAa).step hd)
    replace HBb := hide ((unhide HBb).step hd)
    replace HC := hide ((unhide HC).below hd)
    replace HK := hide ((unhide HK).trans (kept_of_below hd))
    clear hd s9 sf
    clear l1 l3
    have l1 := (unhide HAa).cell (i := 1) rfl
    have l3 := (unhide HAa).cell (i := 3) rfl
    have s9 := (unhide HBb).cell (i := 1) rfl
    have sf := (unhide HBb).frozen 1
    go_region_held3 (fun w' => w'.cell? ⟨ga, 1, none⟩ = some (.int .i64 Y) ∧ w'.cell? ⟨ga, 3, none⟩ = some (.int .i64 Vy)) (first | go_keep | exact ⟨((unhide HAa).kept (kept1 _ gb 1 _) (fun e => by have e : ga = gb := e; omega)).cell (i := 1) rfl, ((unhide HAa).kept (kept1 _ gb 1 _) (fun e => by have e : ga = gb := e; omega)).cell (i := 3) rfl⟩) (first
      | (go_at_call 34; refine (unhide QB _ (unhide HC) 5 (by omega) (by omega)).mono ?_; rintro e Ybc ⟨zbu, rfl, hzbu0, hzbu1, hC, hK⟩; replace HC := hide hC; replace HG := hide ((unhide HG).kept hK (fun e => by have e : g2 = cb := e; omega)); replace HJ := hide ((unhide HJ).kept hK (fun e => by have e : g3 = cb := e; omega)); replace HAa := hide ((unhide HAa).kept hK (fun e => by have e : ga = cb := e; omega)); replace HBb := hide ((unhide HBb).kept hK (fun e => by have e : gb = cb := e; omega)); replace HK := hide ((unhide HK).trans hK); clear hC hK l1 l3 s9 sf; have l1 := (unhide HAa).cell (i := 1) rfl; have l3 := (unhide HAa).cell (i := 3) rfl; have s9 := (unhide HBb).cell (i := 1) rfl; have sf := (unhide HBb).frozen 1))
    clear l1 l3
    clear s9 sf
    obtain ⟨Yb, eWn⟩ : ∃ Wq, Wq = Ybc.setCell ⟨gb, 1, none⟩ (.int .i64 (IntKind.i64.wrap (IntKind.i64.wrap (IntKind.i64.wrap (Y + IntKind.i64.wrap (6 * Vy)) + zbu) - 2))) := ⟨_, rfl⟩
    have hkp := kept1 Ybc gb 1 (.int .i64 (IntKind.i64.wrap (IntKind.i64.wrap (IntKind.i64.wrap (Y + IntKind.i64.wrap (6 * Vy)) + zbu) - 2)))
    rw [← eWn] at hkp
    replace HBb : Hid (OwnV Yb gb [.int .i64 za, .int .i64 (IntKind.i64.wrap (IntKind.i64.wrap (IntKind.i64.wrap (Y + IntKind.i64.wrap (6 * Vy)) + zbu) - 2)), .int .i64 U', .int .i64 Vy', .int .i64 K', .int .i64 D']) := by show OwnV _ _ _; rw [eWn]; exact (unhide HBb).set 1 _ (by simp)
    replace HG := hide ((unhide HG).kept hkp (fun e => by have e : g2 = gb := e; omega))
    replace HJ := hide ((unhide HJ).kept hkp (fun e => by have e : g3 = gb := e; omega))
    replace HAa := hide ((unhide HAa).kept hkp (fun e => by have e : ga = gb := e; omega))
    replace HC := hide ((unhide HC).kept hkp (fun b hb => by have hb : b = gb := hb; omega))
    replace HK := hide ((unhide HK).own hkp (fun b hb => by have hb : b = gb := hb; omega))
    rw [← eWn]
    clear eWn hkp
    obtain ⟨zb, ezz⟩ : ∃ z, z = IntKind.i64.wrap (IntKind.i64.wrap (IntKind.i64.wrap (Y + IntKind.i64.wrap (6 * Vy)) + zbu) - 2) := ⟨_, rfl⟩
    rw [← ezz] at HBb
    clear ezz
    go_upto_region 11 with (fail)
    have l2 := (unhide HAa).cell (i := 2) rfl
    have s9 := (unhide HAa).cell (i := 2) rfl
    have sf := (unhide HAa).frozen 2
    obtain ⟨Yc, eWn⟩ : ∃ Wq, Wq = Yb.setCell ⟨ga, 2, none⟩ (.int .i64 (wrap64 (2 * U))) := ⟨_, rfl⟩
    have hkp := kept1 Yb ga 2 (.int .i64 (wrap64 (2 * U)))
    rw [← eWn] at hkp
    replace HAa : Hid (OwnV Yc ga [.int .i64 X, .int .i64 Y, .int .i64 (wrap64 (2 * U)), .int .i64 Vy, .int .i64 K, .int .i64 D]) := by show OwnV _ _ _; rw [eWn]; exact (unhide HAa).set 2 _ (by simp)
    replace HG := hide ((unhide HG).kept hkp (fun e => by have e : g2 = ga := e; omega))
    replace HJ := hide ((unhide HJ).kept hkp (fun e => by have e : g3 = ga := e; omega))
    replace HBb := hide ((unhide HBb).kept hkp (fun e => by have e : gb = ga := e; omega))
    replace HC := hide ((unhide HC).kept hkp (fun b hb => by have hb : b = ga := hb; omega))
    replace HK := hide ((unhide HK).own hkp (fun b hb => by have hb : b = ga := hb; omega))
    go_upto_region 12 with (fail)
    rw [← eWn]
    clear eWn hkp s9 sf
    obtain ⟨zc, ezz⟩ : ∃ z, z = wrap64 (2 * U) := ⟨_, rfl⟩
    rw [← ezz] at HAa
    clear ezz
    clear l2
    have l3 := (unhide HAa).cell (i := 3) rfl
    have s9 := (unhide HAa).cell (i := 3) rfl
    have sf := (unhide HAa).frozen 3
    obtain ⟨Yd, eWn⟩ : ∃ Wq, Wq = Yc.setCell ⟨ga, 3, none⟩ (.int .i64 (wrap64 (2 * Vy))) := ⟨_, rfl⟩
    have hkp := kept1 Yc ga 3 (.int .i64 (wrap64 (2 * Vy)))
    rw [← eWn] at hkp
    replace HAa : Hid (OwnV Yd ga [.int .i64 X, .int .i64 Y, .int .i64 zc, .int .i64 (wrap64 (2 * Vy)), .int .i64 K, .int .i64 D]) := by show OwnV _ _ _; rw [eWn]; exact (unhide HAa).set 3 _ (by simp)
    replace HG := hide ((unhide HG).kept hkp (fun e => by have e : g2 = ga := e; omega))
    replace HJ := hide ((unhide HJ).kept hkp (fun e => by have e : g3 = ga := e; omega))
    replace HBb := hide ((unhide HBb).kept hkp (fun e => by have e : gb = ga := e; omega))
    replace HC := hide ((unhide HC).kept hkp (fun b hb => by have hb : b = ga := hb; omega))
    replace HK := hide ((unhide HK).own hkp (fun b hb => by have hb : b = ga := hb; omega))
    go_upto_region 16 with (fail)
    rw [← eWn]
    clear eWn hkp s9 sf
    obtain ⟨zd, ezz⟩ : ∃ z, z = wrap64 (2 * Vy) := ⟨_, rfl⟩
    rw [← ezz] at HAa
    clear ezz
    clear l3
    go_wp2_with fail
    refine (unhide QO _ (unhide HC) 2 (by omega) (by omega)).mono ?_
    rintro e Wo ⟨b, rfl, hC, hK⟩
    replace HC := hide hC
    replace HG := hide ((unhide HG).kept hK (fun e => by have e : g2 = cb := e; omega))
    replace HJ := hide ((unhide HJ).kept hK (fun e => by have e : g3 = cb := e; omega))
    replace HAa := hide ((unhide HAa).kept hK (fun e => by have e : ga = cb := e; omega))
    replace HBb := hide ((unhide HBb).kept hK (fun e => by have e : gb = cb := e; omega))
    replace HK := hide ((unhide HK).trans hK)
    clear hC hK
    cases b with
    | false =>
      go_upto_region 18 with (fail)
      have p0 := (unhide HAa).cell (i := 0) rfl
      have p1 := (unhide HAa).cell (i := 1) rfl
      have p2 := (unhide HAa).cell (i := 2) rfl
      have p3 := (unhide HAa).cell (i := 3) rfl
      have p4 := (unhide HAa).cell (i := 4) rfl
      have p5 := (unhide HAa).cell (i := 5) rfl
      have q0 := (unhide HBb).cell (i := 0) rfl
      have q1 := (unhide HBb).cell (i := 1) rfl
      have q2 := (unhide HBb).cell (i := 2) rfl
      have q3 := (unhide HBb).cell (i := 3) rfl
      have q4 := (unhide HBb).cell (i := 4) rfl
      have q5 := (unhide HBb).cell (i := 5) rfl
      have c0 := (unhide HG).cell (i := 0) rfl
      have cf0 := (unhide HG).frozen 0
      have c1 := (unhide HG).cell (i := 1) rfl
      have cf1 := (unhide HG).frozen 1
      have c2 := (unhide HG).cell (i := 2) rfl
      have cf2 := (unhide HG).frozen 2
      have c3 := (unhide HG).cell (i := 3) rfl
      have cf3 := (unhide HG).frozen 3
      have c4 := (unhide HG).cell (i := 4) rfl
      have cf4 := (unhide HG).frozen 4
      have c5 := (unhide HG).cell (i := 5) rfl
      have cf5 := (unhide HG).frozen 5
      have d0 := (unhide HJ).cell (i := 0) rfl
      have df0 := (unhide HJ).frozen 0
      have d1 := (unhide HJ).cell (i := 1) rfl
      have df1 := (unhide HJ).frozen 1
      have d2 := (unhide HJ).cell (i := 2) rfl
      have df2 := (unhide HJ).frozen 2
      have d3 := (unhide HJ).cell (i := 3) rfl
      have df3 := (unhide HJ).frozen 3
      have d4 := (unhide HJ).cell (i := 4) rfl
      have df4 := (unhide HJ).frozen 4
      have d5 := (unhide HJ).cell (i := 5) rfl
      have df5 := (unhide HJ).frozen 5
      obtain ⟨V8, eV8⟩ : ∃ Vq, Vq = (((((Wo.setCell ⟨g2, 0, none⟩ (.int .i64 X)).setCell ⟨g2, 1, none⟩ (.int .i64 Y)).setCell ⟨g2, 2, none⟩ (.int .i64 zc)).setCell ⟨g2, 3, none⟩ (.int .i64 zd)).setCell ⟨g2, 4, none⟩ (.int .i64 K)).setCell ⟨g2, 5, none⟩ (.int .i64 D) := ⟨_, rfl⟩
      obtain ⟨V9, eV9⟩ : ∃ Vq, Vq = (((((V8.setCell ⟨g3, 0, none⟩ (.int .i64 za)).setCell ⟨g3, 1, none⟩ (.int .i64 zb)).setCell ⟨g3, 2, none⟩ (.int .i64 U')).setCell ⟨g3, 3, none⟩ (.int .i64 Vy')).setCell ⟨g3, 4, none⟩ (.int .i64 K')).setCell ⟨g3, 5, none⟩ (.int .i64 D') := ⟨_, rfl⟩
      have hk8 : Kept (fun b => b = g2) Wo V8 := by rw [eV8]; exact kept6 _ _ (X) (Y) (zc) (zd) (K) (D)
      have hk9 : Kept (fun b => b = g3) V8 V9 := by rw [eV9]; exact kept6 _ _ (za) (zb) (U') (Vy') (K') (D')
      have hd : Below V9.heap.size V9 V9.drew := (Below.refl _ _).drew
      have HG8 : Hid (OwnV V8 g2 [.int .i64 X, .int .i64 Y, .int .i64 zc, .int .i64 zd, .int .i64 K, .int .i64 D]) := by show OwnV _ _ _; rw [eV8]; exact own6 (unhide HG) (X) (Y) (zc) (zd) (K) (D)
      replace HJ := hide ((unhide HJ).kept hk8 (fun e => by have e : g3 = g2 := e; omega))
      have HJ9 : Hid (OwnV V9 g3 [.int .i64 za, .int .i64 zb, .int .i64 U', .int .i64 Vy', .int .i64 K', .int .i64 D']) := by show OwnV _ _ _; rw [eV9]; exact own6 (unhide HJ) (za) (zb) (U') (Vy') (K') (D')
      have HG9 := hide (((unhide HG8).kept hk9 (fun e => by have e : g2 = g3 := e; omega)).step hd)
      replace HJ9 := hide ((unhide HJ9).step hd)
      have HC9 := hide ((((unhide HC).kept hk8 (fun b hb => by have hb : b = g2 := hb; omega)).kept hk9 (fun b hb => by have hb : b = g3 := hb; omega)).below hd)
      have HK9 := hide ((((unhide HK).own hk8 (fun b hb => by have hb : b = g2 := hb; omega)).own hk9 (fun b hb => by have hb : b = g3 := hb; omega)).trans (kept_of_below hd))
      go_region
      rw [← eV8, ← eV9]
      clear eV8 eV9 hk8 hk9 hd HG8
      generalize V9.drew = V10 at *
      go_wp2
      have k0 := (unhide HG9).cell (i := 0) rfl
      have m0 := (unhide HJ9).cell (i := 0) rfl
      have k1 := (unhide HG9).cell (i := 1) rfl
      have m1 := (unhide HJ9).cell (i := 1) rfl
      have k2 := (unhide HG9).cell (i := 2) rfl
      have m2 := (unhide HJ9).cell (i := 2) rfl
      have k3 := (unhide HG9).cell (i := 3) rfl
      have m3 := (unhide HJ9).cell (i := 3) rfl
      have k4 := (unhide HG9).cell (i := 4) rfl
      have m4 := (unhide HJ9).cell (i := 4) rfl
      have k5 := (unhide HG9).cell (i := 5) rfl
      have m5 := (unhide HJ9).cell (i := 5) rfl
      refine bodyPost_ret (v := .tuple #[vShip (X) (Y) (zc) (zd) (K) (D), vShip (za) (zb) (U') (Vy') (K') (D')]) (by simp [results, Try.results15, go_sem, vShip, k0, k1, k2, k3, k4, k5, m0, m1, m2, m3, m4, m5]) rfl ⟨_, _, _, _, _, _, _, _, _, _, _, _, rfl, unhide HC9, unhide HK9⟩
    | true =>
      have l4 := (unhide HAa).cell (i := 4) rfl
      have s9 := (unhide HBb).cell (i := 4) rfl
      have sf := (unhide HBb).frozen 4
      obtain ⟨Wk, eWn⟩ : ∃ Wq, Wq = Wo.setCell ⟨gb, 4, none⟩ (.int .i64 (K)) := ⟨_, rfl⟩
      have hkp := kept1 Wo gb 4 (.int .i64 (K))
      rw [← eWn] at hkp
      replace HBb : Hid (OwnV Wk gb [.int .i64 za, .int .i64 zb, .int .i64 U', .int .i64 Vy', .int .i64 (K), .int .i64 D']) := by show OwnV _ _ _; rw [eWn]; exact (unhide HBb).set 4 _ (by simp)
      replace HG := hide ((unhide HG).kept hkp (fun e => by have e : g2 = gb := e; omega))
      replace HJ := hide ((unhide HJ).kept hkp (fun e => by have e : g3 = gb := e; omega))
      replace HAa := hide ((unhide HAa).kept hkp (fun e => by have e : ga = gb := e; omega))
      replace HC := hide ((unhide HC).kept hkp (fun b hb => by have hb : b = gb := hb; omega))
      replace HK := hide ((unhide HK).own hkp (fun b hb => by have hb : b = gb := hb; omega))
      go_upto_region 18 with (fail)
      rw [← eWn]
      clear eWn hkp s9 sf
      obtain ⟨zk, ezz⟩ : ∃ z, z = K := ⟨_, rfl⟩
      rw [← ezz] at HBb
      clear ezz
      clear l4
      have p0 := (unhide HAa).cell (i := 0) rfl
      have p1 := (unhide HAa).cell (i := 1) rfl
      have p2 := (unhide HAa).cell (i := 2) rfl
      have p3 := (unhide HAa).cell (i := 3) rfl
      have p4 := (unhide HAa).cell (i := 4) rfl
      have p5 := (unhide HAa).cell (i := 5) rfl
      have q0 := (unhide HBb).cell (i := 0) rfl
      have q1 := (unhide HBb).cell (i := 1) rfl
      have q2 := (unhide HBb).cell (i := 2) rfl
      have q3 := (unhide HBb).cell (i := 3) rfl
      have q4 := (unhide HBb).cell (i := 4) rfl
      have q5 := (unhide HBb).cell (i := 5) rfl
      have c0 := (unhide HG).cell (i := 0) rfl
      have cf0 := (unhide HG).frozen 0
      have c1 := (unhide HG).cell (i := 1) rfl
      have cf1 := (unhide HG).frozen 1
      have c2 := (unhide HG).cell (i := 2) rfl
      have cf2 := (unhide HG).frozen 2
      have c3 := (unhide HG).cell (i := 3) rfl
      have cf3 := (unhide HG).frozen 3
      have c4 := (unhide HG).cell (i := 4) rfl
      have cf4 := (unhide HG).frozen 4
      have c5 := (unhide HG).cell (i := 5) rfl
      have cf5 := (unhide HG).frozen 5
      have d0 := (unhide HJ).cell (i := 0) rfl
      have df0 := (unhide HJ).frozen 0
      have d1 := (unhide HJ).cell (i := 1) rfl
      have df1 := (unhide HJ).frozen 1
      have d2 := (unhide HJ).cell (i := 2) rfl
      have df2 := (unhide HJ).frozen 2
      have d3 := (unhide HJ).cell (i := 3) rfl
      have df3 := (unhide HJ).frozen 3
      have d4 := (unhide HJ).cell (i := 4) rfl
      have df4 := (unhide HJ).frozen 4
      have d5 := (unhide HJ).cell (i := 5) rfl
      have df5 := (unhide HJ).frozen 5
      obtain ⟨V8, eV8⟩ : ∃ Vq, Vq = (((((Wk.setCell ⟨g2, 0, none⟩ (.int .i64 X)).setCell ⟨g2, 1, none⟩ (.int .i64 Y)).setCell ⟨g2, 2, none⟩ (.int .i64 zc)).setCell ⟨g2, 3, none⟩ (.int .i64 zd)).setCell ⟨g2, 4, none⟩ (.int .i64 K)).setCell ⟨g2, 5, none⟩ (.int .i64 D) := ⟨_, rfl⟩
      obtain ⟨V9, eV9⟩ : ∃ Vq, Vq = (((((V8.setCell ⟨g3, 0, none⟩ (.int .i64 za)).setCell ⟨g3, 1, none⟩ (.int .i64 zb)).setCell ⟨g3, 2, none⟩ (.int .i64 U')).setCell ⟨g3, 3, none⟩ (.int .i64 Vy')).setCell ⟨g3, 4, none⟩ (.int .i64 zk)).setCell ⟨g3, 5, none⟩ (.int .i64 D') := ⟨_, rfl⟩
      have hk8 : Kept (fun b => b = g2) Wk V8 := by rw [eV8]; exact kept6 _ _ (X) (Y) (zc) (zd) (K) (D)
      have hk9 : Kept (fun b => b = g3) V8 V9 := by rw [eV9]; exact kept6 _ _ (za) (zb) (U') (Vy') (zk) (D')
      have hd : Below V9.heap.size V9 V9.drew := (Below.refl _ _).drew
      have HG8 : Hid (OwnV V8 g2 [.int .i64 X, .int .i64 Y, .int .i64 zc, .int .i64 zd, .int .i64 K, .int .i64 D]) := by show OwnV _ _ _; rw [eV8]; exact own6 (unhide HG) (X) (Y) (zc) (zd) (K) (D)
      replace HJ := hide ((unhide HJ).kept hk8 (fun e => by have e : g3 = g2 := e; omega))
      have HJ9 : Hid (OwnV V9 g3 [.int .i64 za, .int .i64 zb, .int .i64 U', .int .i64 Vy', .int .i64 zk, .int .i64 D']) := by show OwnV _ _ _; rw [eV9]; exact own6 (unhide HJ) (za) (zb) (U') (Vy') (zk) (D')
      have HG9 := hide (((unhide HG8).kept hk9 (fun e => by have e : g2 = g3 := e; omega)).step hd)
      replace HJ9 := hide ((unhide HJ9).step hd)
      have HC9 := hide ((((unhide HC).kept hk8 (fun b hb => by have hb : b = g2 := hb; omega)).kept hk9 (fun b hb => by have hb : b = g3 := hb; omega)).below hd)
      have HK9 := hide ((((unhide HK).own hk8 (fun b hb => by have hb : b = g2 := hb; omega)).own hk9 (fun b hb => by have hb : b = g3 := hb; omega)).trans (kept_of_below hd))
      go_region
      rw [← eV8, ← eV9]
      clear eV8 eV9 hk8 hk9 hd HG8
      generalize V9.drew = V10 at *
      go_wp2
      have k0 := (unhide HG9).cell (i := 0) rfl
      have m0 := (unhide HJ9).cell (i := 0) rfl
      have k1 := (unhide HG9).cell (i := 1) rfl
      have m1 := (unhide HJ9).cell (i := 1) rfl
      have k2 := (unhide HG9).cell (i := 2) rfl
      have m2 := (unhide HJ9).cell (i := 2) rfl
      have k3 := (unhide HG9).cell (i := 3) rfl
      have m3 := (unhide HJ9).cell (i := 3) rfl
      have k4 := (unhide HG9).cell (i := 4) rfl
      have m4 := (unhide HJ9).cell (i := 4) rfl
      have k5 := (unhide HG9).cell (i := 5) rfl
      have m5 := (unhide HJ9).cell (i := 5) rfl
      refine bodyPost_ret (v := .tuple #[vShip (X) (Y) (zc) (zd) (K) (D), vShip (za) (zb) (U') (Vy') (zk) (D')]) (by simp [results, Try.results15, go_sem, vShip, k0, k1, k2, k3, k4, k5, m0, m1, m2, m3, m4, m5]) rfl ⟨_, _, _, _, _, _, _, _, _, _, _, _, rfl, unhide HC9, unhide HK9⟩
  have d1 : (x == 1) = false := by simp [e1]
  by_cases e2 : x = 2
  case pos =>
    subst e2
    clear hx0 hx1
    go_upto_region 14 with (fail)
    have l0 := (unhide HAa).cell (i := 0) rfl
    have l2 := (unhide HAa).cell (i := 2) rfl
    have s9 := (unhide HBb).cell (i := 0) rfl
    have sf := (unhide HBb).frozen 0
    obtain ⟨Ya, eWn⟩ : ∃ Wq, Wq = W3.setCell ⟨gb, 0, none⟩ (.int .i64 (wrap64 (X + wrap64 (5 * U)))) := ⟨_, rfl⟩
    have hkp := kept1 W3 gb 0 (.int .i64 (wrap64 (X + wrap64 (5 * U))))
    rw [← eWn] at hkp
    replace HBb : Hid (OwnV Ya gb [.int .i64 (wrap64 (X + wrap64 (5 * U))), .int .i64 Y', .int .i64 U', .int .i64 Vy', .int .i64 K', .int .i64 D']) := by show OwnV _ _ _; rw [eWn]; exact (unhide HBb).set 0 _ (by simp)
    replace HG := hide ((unhide HG).kept hkp (fun e => by have e : g2 = gb := e; omega))
    replace HJ := hide ((unhide HJ).kept hkp (fun e => by have e : g3 = gb := e; omega))
    replace HAa := hide ((unhide HAa).kept hkp (fun e => by have e : ga = gb := e; omega))
    replace HC := hide ((unhide HC).kept hkp (fun b hb => by have hb : b = gb := hb; omega))
    replace HK := hide ((unhide HK).own hkp (fun b hb => by have hb : b = gb := hb; omega))
    go_upto_region 15 with (fail)
    rw [← eWn]
    clear eWn hkp s9 sf
    obtain ⟨za, ezz⟩ : ∃ z, z = wrap64 (X + wrap64 (5 * U)) := ⟨_, rfl⟩
    rw [← ezz] at HBb
    clear ezz
    clear l0 l2
    have l1 := (unhide HAa).cell (i := 1) rfl
    have l3 := (unhide HAa).cell (i := 3) rfl
    have s9 := (unhide HBb).cell (i := 1) rfl
    have sf := (unhide HBb).frozen 1
    obtain ⟨Yb, eWn⟩ : ∃ Wq, Wq = Ya.setCell ⟨gb, 1, none⟩ (.int .i64 (wrap64 (Y + wrap64 (5 * Vy)))) := ⟨_, rfl⟩
    have hkp := kept1 Ya gb 1 (.int .i64 (wrap64 (Y + wrap64 (5 * Vy))))
    rw [← eWn] at hkp
    replace HBb : Hid (OwnV Yb gb [.int .i64 za, .int .i64 (wrap64 (Y + wrap64 (5 * Vy))), .int .i64 U', .int .i64 Vy', .int .i64 K', .int .i64 D']) := by show OwnV _ _ _; rw [eWn]; exact (unhide HBb).set 1 _ (by simp)
    replace HG := hide ((unhide HG).kept hkp (fun e => by have e : g2 = gb := e; omega))
    replace HJ := hide ((unhide HJ).kept hkp (fun e => by have e : g3 = gb := e; omega))
    replace HAa := hide ((unhide HAa).kept hkp (fun e => by have e : ga = gb := e; omega))
    replace HC := hide ((unhide HC).kept hkp (fun b hb => by have hb : b = gb := hb; omega))
    replace HK := hide ((unhide HK).own hkp (fun b hb => by have hb : b = gb := hb; omega))
    go_upto_region 16 with (fail)
    rw [← eWn]
    clear eWn hkp s9 sf
    obtain ⟨zb, ezz⟩ : ∃ z, z = wrap64 (Y + wrap64 (5 * Vy)) := ⟨_, rfl⟩
    rw [← ezz] at HBb
    clear ezz
    clear l1 l3
    go_wp2_with fail
    refine (unhide QO _ (unhide HC) 2 (by omega) (by omega)).mono ?_
    rintro e Wo ⟨b, rfl, hC, hK⟩
    replace HC := hide hC
    replace HG := hide ((unhide HG).kept hK (fun e => by have e : g2 = cb := e; omega))
    replace HJ := hide ((unhide HJ).kept hK (fun e => by have e : g3 = cb := e; omega))
    replace HAa := hide ((unhide HAa).kept hK (fun e => by have e : ga = cb := e; omega))
    replace HBb := hide ((unhide HBb).kept hK (fun e => by have e : gb = cb := e; omega))
    replace HK := hide ((unhide HK).trans hK)
    clear hC hK
    cases b with
    | false =>
      go_upto_region 18 with (fail)
      have p0 := (unhide HAa).cell (i := 0) rfl
      have p1 := (unhide HAa).cell (i := 1) rfl
      have p2 := (unhide HAa).cell (i := 2) rfl
      have p3 := (unhide HAa).cell (i := 3) rfl
      have p4 := (unhide HAa).cell (i := 4) rfl
      have p5 := (unhide HAa).cell (i := 5) rfl
      have q0 := (unhide HBb).cell (i := 0) rfl
      have q1 := (unhide HBb).cell (i := 1) rfl
      have q2 := (unhide HBb).cell (i := 2) rfl
      have q3 := (unhide HBb).cell (i := 3) rfl
      have q4 := (unhide HBb).cell (i := 4) rfl
      have q5 := (unhide HBb).cell (i := 5) rfl
      have c0 := (unhide HG).cell (i := 0) rfl
      have cf0 := (unhide HG).frozen 0
      have c1 := (unhide HG).cell (i := 1) rfl
      have cf1 := (unhide HG).frozen 1
      have c2 := (unhide HG).cell (i := 2) rfl
      have cf2 := (unhide HG).frozen 2
      have c3 := (unhide HG).cell (i := 3) rfl
      have cf3 := (unhide HG).frozen 3
      have c4 := (unhide HG).cell (i := 4) rfl
      have cf4 := (unhide HG).frozen 4
      have c5 := (unhide HG).cell (i := 5) rfl
      have cf5 := (unhide HG).frozen 5
      have d0 := (unhide HJ).cell (i := 0) rfl
      have df0 := (unhide HJ).frozen 0
      have d1 := (unhide HJ).cell (i := 1) rfl
      have df1 := (unhide HJ).frozen 1
      have d2 := (unhide HJ).cell (i := 2) rfl
      have df2 := (unhide HJ).frozen 2
      have d3 := (unhide HJ).cell (i := 3) rfl
      have df3 := (unhide HJ).frozen 3
      have d4 := (unhide HJ).cell (i := 4) rfl
      have df4 := (unhide HJ).frozen 4
      have d5 := (unhide HJ).cell (i := 5) rfl
      have df5 := (unhide HJ).frozen 5
      obtain ⟨V8, eV8⟩ : ∃ Vq, Vq = (((((Wo.setCell ⟨g2, 0, none⟩ (.int .i64 X)).setCell ⟨g2, 1, none⟩ (.int .i64 Y)).setCell ⟨g2, 2, none⟩ (.int .i64 U)).setCell ⟨g2, 3, none⟩ (.int .i64 Vy)).setCell ⟨g2, 4, none⟩ (.int .i64 K)).setCell ⟨g2, 5, none⟩ (.int .i64 D) := ⟨_, rfl⟩
      obtain ⟨V9, eV9⟩ : ∃ Vq, Vq = (((((V8.setCell ⟨g3, 0, none⟩ (.int .i64 za)).setCell ⟨g3, 1, none⟩ (.int .i64 zb)).setCell ⟨g3, 2, none⟩ (.int .i64 U')).setCell ⟨g3, 3, none⟩ (.int .i64 Vy')).setCell ⟨g3, 4, none⟩ (.int .i64 K')).setCell ⟨g3, 5, none⟩ (.int .i64 D') := ⟨_, rfl⟩
      have hk8 : Kept (fun b => b = g2) Wo V8 := by rw [eV8]; exact kept6 _ _ (X) (Y) (U) (Vy) (K) (D)
      have hk9 : Kept (fun b => b = g3) V8 V9 := by rw [eV9]; exact kept6 _ _ (za) (zb) (U') (Vy') (K') (D')
      have hd : Below V9.heap.size V9 V9.drew := (Below.refl _ _).drew
      have HG8 : Hid (OwnV V8 g2 [.int .i64 X, .int .i64 Y, .int .i64 U, .int .i64 Vy, .int .i64 K, .int .i64 D]) := by show OwnV _ _ _; rw [eV8]; exact own6 (unhide HG) (X) (Y) (U) (Vy) (K) (D)
      replace HJ := hide ((unhide HJ).kept hk8 (fun e => by have e : g3 = g2 := e; omega))
      have HJ9 : Hid (OwnV V9 g3 [.int .i64 za, .int .i64 zb, .int .i64 U', .int .i64 Vy', .int .i64 K', .int .i64 D']) := by show OwnV _ _ _; rw [eV9]; exact own6 (unhide HJ) (za) (zb) (U') (Vy') (K') (D')
      have HG9 := hide (((unhide HG8).kept hk9 (fun e => by have e : g2 = g3 := e; omega)).step hd)
      replace HJ9 := hide ((unhide HJ9).step hd)
      have HC9 := hide ((((unhide HC).kept hk8 (fun b hb => by have hb : b = g2 := hb; omega)).kept hk9 (fun b hb => by have hb : b = g3 := hb; omega)).below hd)
      have HK9 := hide ((((unhide HK).own hk8 (fun b hb => by have hb : b = g2 := hb; omega)).own hk9 (fun b hb => by have hb : b = g3 := hb; omega)).trans (kept_of_below hd))
      go_region
      rw [← eV8, ← eV9]
      clear eV8 eV9 hk8 hk9 hd HG8
      generalize V9.drew = V10 at *
      go_wp2
      have k0 := (unhide HG9).cell (i := 0) rfl
      have m0 := (unhide HJ9).cell (i := 0) rfl
      have k1 := (unhide HG9).cell (i := 1) rfl
      have m1 := (unhide HJ9).cell (i := 1) rfl
      have k2 := (unhide HG9).cell (i := 2) rfl
      have m2 := (unhide HJ9).cell (i := 2) rfl
      have k3 := (unhide HG9).cell (i := 3) rfl
      have m3 := (unhide HJ9).cell (i := 3) rfl
      have k4 := (unhide HG9).cell (i := 4) rfl
      have m4 := (unhide HJ9).cell (i := 4) rfl
      have k5 := (unhide HG9).cell (i := 5) rfl
      have m5 := (unhide HJ9).cell (i := 5) rfl
      refine bodyPost_ret (v := .tuple #[vShip (X) (Y) (U) (Vy) (K) (D), vShip (za) (zb) (U') (Vy') (K') (D')]) (by simp [results, Try.results15, go_sem, vShip, k0, k1, k2, k3, k4, k5, m0, m1, m2, m3, m4, m5]) rfl ⟨_, _, _, _, _, _, _, _, _, _, _, _, rfl, unhide HC9, unhide HK9⟩
    | true =>
      have l4 := (unhide HAa).cell (i := 4) rfl
      have s9 := (unhide HBb).cell (i := 4) rfl
      have sf := (unhide HBb).frozen 4
      obtain ⟨Wk, eWn⟩ : ∃ Wq, Wq = Wo.setCell ⟨gb, 4, none⟩ (.int .i64 (K)) := ⟨_, rfl⟩
      have hkp := kept1 Wo gb 4 (.int .i64 (K))
      rw [← eWn] at hkp
      replace HBb : Hid (OwnV Wk gb [.int .i64 za, .int .i64 zb, .int .i64 U', .int .i64 Vy', .int .i64 (K), .int .i64 D']) := by show OwnV _ _ _; rw [eWn]; exact (unhide HBb).set 4 _ (by simp)
      replace HG := hide ((unhide HG).kept hkp (fun e => by have e : g2 = gb := e; omega))
      replace HJ := hide ((unhide HJ).kept hkp (fun e => by have e : g3 = gb := e; omega))
      replace HAa := hide ((unhide HAa).kept hkp (fun e => by have e : ga = gb := e; omega))
      replace HC := hide ((unhide HC).kept hkp (fun b hb => by have hb : b = gb := hb; omega))
      replace HK := hide ((unhide HK).own hkp (fun b hb => by have hb : b = gb := hb; omega))
      go_upto_region 18 with (fail)
      rw [← eWn]
      clear eWn hkp s9 sf
      obtain ⟨zk, ezz⟩ : ∃ z, z = K := ⟨_, rfl⟩
      rw [← ezz] at HBb
      clear ezz
      clear l4
      have p0 := (unhide HAa).cell (i := 0) rfl
      have p1 := (unhide HAa).cell (i := 1) rfl
      have p2 := (unhide HAa).cell (i := 2) rfl
      have p3 := (unhide HAa).cell (i := 3) rfl
      have p4 := (unhide HAa).cell (i := 4) rfl
      have p5 := (unhide HAa).cell (i := 5) rfl
      have q0 := (unhide HBb).cell (i := 0) rfl
      have q1 := (unhide HBb).cell (i := 1) rfl
      have q2 := (unhide HBb).cell (i := 2) rfl
      have q3 := (unhide HBb).cell (i := 3) rfl
      have q4 := (unhide HBb).cell (i := 4) rfl
      have q5 := (unhide HBb).cell (i := 5) rfl
      have c0 := (unhide HG).cell (i := 0) rfl
      have cf0 := (unhide HG).frozen 0
      have c1 := (unhide HG).cell (i := 1) rfl
      have cf1 := (unhide HG).frozen 1
      have c2 := (unhide HG).cell (i := 2) rfl
      have cf2 := (unhide HG).frozen 2
      have c3 := (unhide HG).cell (i := 3) rfl
      have cf3 := (unhide HG).frozen 3
      have c4 := (unhide HG).cell (i := 4) rfl
      have cf4 := (unhide HG).frozen 4
      have c5 := (unhide HG).cell (i := 5) rfl
      have cf5 := (unhide HG).frozen 5
      have d0 := (unhide HJ).cell (i := 0) rfl
      have df0 := (unhide HJ).frozen 0
      have d1 := (unhide HJ).cell (i := 1) rfl
      have df1 := (unhide HJ).frozen 1
      have d2 := (unhide HJ).cell (i := 2) rfl
      have df2 := (unhide HJ).frozen 2
      have d3 := (unhide HJ).cell (i := 3) rfl
      have df3 := (unhide HJ).frozen 3
      have d4 := (unhide HJ).cell (i := 4) rfl
      have df4 := (unhide HJ).frozen 4
      have d5 := (unhide HJ).cell (i := 5) rfl
      have df5 := (unhide HJ).frozen 5
      obtain ⟨V8, eV8⟩ : ∃ Vq, Vq = (((((Wk.setCell ⟨g2, 0, none⟩ (.int .i64 X)).setCell ⟨g2, 1, none⟩ (.int .i64 Y)).setCell ⟨g2, 2, none⟩ (.int .i64 U)).setCell ⟨g2, 3, none⟩ (.int .i64 Vy)).setCell ⟨g2, 4, none⟩ (.int .i64 K)).setCell ⟨g2, 5, none⟩ (.int .i64 D) := ⟨_, rfl⟩
      obtain ⟨V9, eV9⟩ : ∃ Vq, Vq = (((((V8.setCell ⟨g3, 0, none⟩ (.int .i64 za)).setCell ⟨g3, 1, none⟩ (.int .i64 zb)).setCell ⟨g3, 2, none⟩ (.int .i64 U')).setCell ⟨g3, 3, none⟩ (.int .i64 Vy')).setCell ⟨g3, 4, none⟩ (.int .i64 zk)).setCell ⟨g3, 5, none⟩ (.int .i64 D') := ⟨_, rfl⟩
      have hk8 : Kept (fun b => b = g2) Wk V8 := by rw [eV8]; exact kept6 _ _ (X) (Y) (U) (Vy) (K) (D)
      have hk9 : Kept (fun b => b = g3) V8 V9 := by rw [eV9]; exact kept6 _ _ (za) (zb) (U') (Vy') (zk) (D')
      have hd : Below V9.heap.size V9 V9.drew := (Below.refl _ _).drew
      have HG8 : Hid (OwnV V8 g2 [.int .i64 X, .int .i64 Y, .int .i64 U, .int .i64 Vy, .int .i64 K, .int .i64 D]) := by show OwnV _ _ _; rw [eV8]; exact own6 (unhide HG) (X) (Y) (U) (Vy) (K) (D)
      replace HJ := hide ((unhide HJ).kept hk8 (fun e => by have e : g3 = g2 := e; omega))
      have HJ9 : Hid (OwnV V9 g3 [.int .i64 za, .int .i64 zb, .int .i64 U', .int .i64 Vy', .int .i64 zk, .int .i64 D']) := by show OwnV _ _ _; rw [eV9]; exact own6 (unhide HJ) (za) (zb) (U') (Vy') (zk) (D')
      have HG9 := hide (((unhide HG8).kept hk9 (fun e => by have e : g2 = g3 := e; omega)).step hd)
      replace HJ9 := hide ((unhide HJ9).step hd)
      have HC9 := hide ((((unhide HC).kept hk8 (fun b hb => by have hb : b = g2 := hb; omega)).kept hk9 (fun b hb => by have hb : b = g3 := hb; omega)).below hd)
      have HK9 := hide ((((unhide HK).own hk8 (fun b hb => by have hb : b = g2 := hb; omega)).own hk9 (fun b hb => by have hb : b = g3 := hb; omega)).trans (kept_of_below hd))
      go_region
      rw [← eV8, ← eV9]
      clear eV8 eV9 hk8 hk9 hd HG8
      generalize V9.drew = V10 at *
      go_wp2
      have k0 := (unhide HG9).cell (i := 0) rfl
      have m0 := (unhide HJ9).cell (i := 0) rfl
      have k1 := (unhide HG9).cell (i := 1) rfl
      have m1 := (unhide HJ9).cell (i := 1) rfl
      have k2 := (unhide HG9).cell (i := 2) rfl
      have m2 := (unhide HJ9).cell (i := 2) rfl
      have k3 := (unhide HG9).cell (i := 3) rfl
      have m3 := (unhide HJ9).cell (i := 3) rfl
      have k4 := (unhide HG9).cell (i := 4) rfl
      have m4 := (unhide HJ9).cell (i := 4) rfl
      have k5 := (unhide HG9).cell (i := 5) rfl
      have m5 := (unhide HJ9).cell (i := 5) rfl
      refine bodyPost_ret (v := .tuple #[vShip (X) (Y) (U) (Vy) (K) (D), vShip (za) (zb) (U') (Vy') (zk) (D')]) (by simp [results, Try.results15, go_sem, vShip, k0, k1, k2, k3, k4, k5, m0, m1, m2, m3, m4, m5]) rfl ⟨_, _, _, _, _, _, _, _, _, _, _, _, rfl, unhide HC9, unhide HK9⟩
  have d2 : (x == 2) = false := by simp [e2]
  clear e0 e1 e2
  go_upto_region 16 with (fail)
  go_wp2_with fail
  refine (unhide QO _ (unhide HC) 2 (by omega) (by omega)).mono ?_
  rintro e Wo ⟨b, rfl, hC, hK⟩
  replace HC := hide hC
  replace HG := hide ((unhide HG).kept hK (fun e => by have e : g2 = cb := e; omega))
  replace HJ := hide ((unhide HJ).kept hK (fun e => by have e : g3 = cb := e; omega))
  replace HAa := hide ((unhide HAa).kept hK (fun e => by have e : ga = cb := e; omega))
  replace HBb := hide ((unhide HBb).kept hK (fun e => by have e : gb = cb := e; omega))
  replace HK := hide ((unhide HK).trans hK)
  clear hC hK
  cases b with
  | false =>
    go_upto_region 18 with (fail)
    have p0 := (unhide HAa).cell (i := 0) rfl
    have p1 := (unhide HAa).cell (i := 1) rfl
    have p2 := (unhide HAa).cell (i := 2) rfl
    have p3 := (unhide HAa).cell (i := 3) rfl
    have p4 := (unhide HAa).cell (i := 4) rfl
    have p5 := (unhide HAa).cell (i := 5) rfl
    have q0 := (unhide HBb).cell (i := 0) rfl
    have q1 := (unhide HBb).cell (i := 1) rfl
    have q2 := (unhide HBb).cell (i := 2) rfl
    have q3 := (unhide HBb).cell (i := 3) rfl
    have q4 := (unhide HBb).cell (i := 4) rfl
    have q5 := (unhide HBb).cell (i := 5) rfl
    have c0 := (unhide HG).cell (i := 0) rfl
    have cf0 := (unhide HG).frozen 0
    have c1 := (unhide HG).cell (i := 1) rfl
    have cf1 := (unhide HG).frozen 1
    have c2 := (unhide HG).cell (i := 2) rfl
    have cf2 := (unhide HG).frozen 2
    have c3 := (unhide HG).cell (i := 3) rfl
    have cf3 := (unhide HG).frozen 3
    have c4 := (unhide HG).cell (i := 4) rfl
    have cf4 := (unhide HG).frozen 4
    have c5 := (unhide HG).cell (i := 5) rfl
    have cf5 := (unhide HG).frozen 5
    have d0 := (unhide HJ).cell (i := 0) rfl
    have df0 := (unhide HJ).frozen 0
    have d1 := (unhide HJ).cell (i := 1) rfl
    have df1 := (unhide HJ).frozen 1
    have d2 := (unhide HJ).cell (i := 2) rfl
    have df2 := (unhide HJ).frozen 2
    have d3 := (unhide HJ).cell (i := 3) rfl
    have df3 := (unhide HJ).frozen 3
    have d4 := (unhide HJ).cell (i := 4) rfl
    have df4 := (unhide HJ).frozen 4
    have d5 := (unhide HJ).cell (i := 5) rfl
    have df5 := (unhide HJ).frozen 5
    obtain ⟨V8, eV8⟩ : ∃ Vq, Vq = (((((Wo.setCell ⟨g2, 0, none⟩ (.int .i64 X)).setCell ⟨g2, 1, none⟩ (.int .i64 Y)).setCell ⟨g2, 2, none⟩ (.int .i64 U)).setCell ⟨g2, 3, none⟩ (.int .i64 Vy)).setCell ⟨g2, 4, none⟩ (.int .i64 K)).setCell ⟨g2, 5, none⟩ (.int .i64 D) := ⟨_, rfl⟩
    obtain ⟨V9, eV9⟩ : ∃ Vq, Vq = (((((V8.setCell ⟨g3, 0, none⟩ (.int .i64 X')).setCell ⟨g3, 1, none⟩ (.int .i64 Y')).setCell ⟨g3, 2, none⟩ (.int .i64 U')).setCell ⟨g3, 3, none⟩ (.int .i64 Vy')).setCell ⟨g3, 4, none⟩ (.int .i64 K')).setCell ⟨g3, 5, none⟩ (.int .i64 D') := ⟨_, rfl⟩
    have hk8 : Kept (fun b => b = g2) Wo V8 := by rw [eV8]; exact kept6 _ _ (X) (Y) (U) (Vy) (K) (D)
    have hk9 : Kept (fun b => b = g3) V8 V9 := by rw [eV9]; exact kept6 _ _ (X') (Y') (U') (Vy') (K') (D')
    have hd : Below V9.heap.size V9 V9.drew := (Below.refl _ _).drew
    have HG8 : Hid (OwnV V8 g2 [.int .i64 X, .int .i64 Y, .int .i64 U, .int .i64 Vy, .int .i64 K, .int .i64 D]) := by show OwnV _ _ _; rw [eV8]; exact own6 (unhide HG) (X) (Y) (U) (Vy) (K) (D)
    replace HJ := hide ((unhide HJ).kept hk8 (fun e => by have e : g3 = g2 := e; omega))
    have HJ9 : Hid (OwnV V9 g3 [.int .i64 X', .int .i64 Y', .int .i64 U', .int .i64 Vy', .int .i64 K', .int .i64 D']) := by show OwnV _ _ _; rw [eV9]; exact own6 (unhide HJ) (X') (Y') (U') (Vy') (K') (D')
    have HG9 := hide (((unhide HG8).kept hk9 (fun e => by have e : g2 = g3 := e; omega)).step hd)
    replace HJ9 := hide ((unhide HJ9).step hd)
    have HC9 := hide ((((unhide HC).kept hk8 (fun b hb => by have hb : b = g2 := hb; omega)).kept hk9 (fun b hb => by have hb : b = g3 := hb; omega)).below hd)
    have HK9 := hide ((((unhide HK).own hk8 (fun b hb => by have hb : b = g2 := hb; omega)).own hk9 (fun b hb => by have hb : b = g3 := hb; omega)).trans (kept_of_below hd))
    go_region
    rw [← eV8, ← eV9]
    clear eV8 eV9 hk8 hk9 hd HG8
    generalize V9.drew = V10 at *
    go_wp2
    have k0 := (unhide HG9).cell (i := 0) rfl
    have m0 := (unhide HJ9).cell (i := 0) rfl
    have k1 := (unhide HG9).cell (i := 1) rfl
    have m1 := (unhide HJ9).cell (i := 1) rfl
    have k2 := (unhide HG9).cell (i := 2) rfl
    have m2 := (unhide HJ9).cell (i := 2) rfl
    have k3 := (unhide HG9).cell (i := 3) rfl
    have m3 := (unhide HJ9).cell (i := 3) rfl
    have k4 := (unhide HG9).cell (i := 4) rfl
    have m4 := (unhide HJ9).cell (i := 4) rfl
    have k5 := (unhide HG9).cell (i := 5) rfl
    have m5 := (unhide HJ9).cell (i := 5) rfl
    refine bodyPost_ret (v := .tuple #[vShip (X) (Y) (U) (Vy) (K) (D), vShip (X') (Y') (U') (Vy') (K') (D')]) (by simp [results, Try.results15, go_sem, vShip, k0, k1, k2, k3, k4, k5, m0, m1, m2, m3, m4, m5]) rfl ⟨_, _, _, _, _, _, _, _, _, _, _, _, rfl, unhide HC9, unhide HK9⟩
  | true =>
    have l4 := (unhide HAa).cell (i := 4) rfl
    have s9 := (unhide HBb).cell (i := 4) rfl
    have sf := (unhide HBb).frozen 4
    obtain ⟨Wk, eWn⟩ : ∃ Wq, Wq = Wo.setCell ⟨gb, 4, none⟩ (.int .i64 (K)) := ⟨_, rfl⟩
    have hkp := kept1 Wo gb 4 (.int .i64 (K))
    rw [← eWn] at hkp
    replace HBb : Hid (OwnV Wk gb [.int .i64 X', .int .i64 Y', .int .i64 U', .int .i64 Vy', .int .i64 (K), .int .i64 D']) := by show OwnV _ _ _; rw [eWn]; exact (unhide HBb).set 4 _ (by simp)
    replace HG := hide ((unhide HG).kept hkp (fun e => by have e : g2 = gb := e; omega))
    replace HJ := hide ((unhide HJ).kept hkp (fun e => by have e : g3 = gb := e; omega))
    replace HAa := hide ((unhide HAa).kept hkp (fun e => by have e : ga = gb := e; omega))
    replace HC := hide ((unhide HC).kept hkp (fun b hb => by have hb : b = gb := hb; omega))
    replace HK := hide ((unhide HK).own hkp (fun b hb => by have hb : b = gb := hb; omega))
    go_upto_region 18 with (fail)
    rw [← eWn]
    clear eWn hkp s9 sf
    obtain ⟨zk, ezz⟩ : ∃ z, z = K := ⟨_, rfl⟩
    rw [← ezz] at HBb
    clear ezz
    clear l4
    have p0 := (unhide HAa).cell (i := 0) rfl
    have p1 := (unhide HAa).cell (i := 1) rfl
    have p2 := (unhide HAa).cell (i := 2) rfl
    have p3 := (unhide HAa).cell (i := 3) rfl
    have p4 := (unhide HAa).cell (i := 4) rfl
    have p5 := (unhide HAa).cell (i := 5) rfl
    have q0 := (unhide HBb).cell (i := 0) rfl
    have q1 := (unhide HBb).cell (i := 1) rfl
    have q2 := (unhide HBb).cell (i := 2) rfl
    have q3 := (unhide HBb).cell (i := 3) rfl
    have q4 := (unhide HBb).cell (i := 4) rfl
    have q5 := (unhide HBb).cell (i := 5) rfl
    have c0 := (unhide HG).cell (i := 0) rfl
    have cf0 := (unhide HG).frozen 0
    have c1 := (unhide HG).cell (i := 1) rfl
    have cf1 := (unhide HG).frozen 1
    have c2 := (unhide HG).cell (i := 2) rfl
    have cf2 := (unhide HG).frozen 2
    have c3 := (unhide HG).cell (i := 3) rfl
    have cf3 := (unhide HG).frozen 3
    have c4 := (unhide HG).cell (i := 4) rfl
    have cf4 := (unhide HG).frozen 4
    have c5 := (unhide HG).cell (i := 5) rfl
    have cf5 := (unhide HG).frozen 5
    have d0 := (unhide HJ).cell (i := 0) rfl
    have df0 := (unhide HJ).frozen 0
    have d1 := (unhide HJ).cell (i := 1) rfl
    have df1 := (unhide HJ).frozen 1
    have d2 := (unhide HJ).cell (i := 2) rfl
    have df2 := (unhide HJ).frozen 2
    have d3 := (unhide HJ).cell (i := 3) rfl
    have df3 := (unhide HJ).frozen 3
    have d4 := (unhide HJ).cell (i := 4) rfl
    have df4 := (unhide HJ).frozen 4
    have d5 := (unhide HJ).cell (i := 5) rfl
    have df5 := (unhide HJ).frozen 5
    obtain ⟨V8, eV8⟩ : ∃ Vq, Vq = (((((Wk.setCell ⟨g2, 0, none⟩ (.int .i64 X)).setCell ⟨g2, 1, none⟩ (.int .i64 Y)).setCell ⟨g2, 2, none⟩ (.int .i64 U)).setCell ⟨g2, 3, none⟩ (.int .i64 Vy)).setCell ⟨g2, 4, none⟩ (.int .i64 K)).setCell ⟨g2, 5, none⟩ (.int .i64 D) := ⟨_, rfl⟩
    obtain ⟨V9, eV9⟩ : ∃ Vq, Vq = (((((V8.setCell ⟨g3, 0, none⟩ (.int .i64 X')).setCell ⟨g3, 1, none⟩ (.int .i64 Y')).setCell ⟨g3, 2, none⟩ (.int .i64 U')).setCell ⟨g3, 3, none⟩ (.int .i64 Vy')).setCell ⟨g3, 4, none⟩ (.int .i64 zk)).setCell ⟨g3, 5, none⟩ (.int .i64 D') := ⟨_, rfl⟩
    have hk8 : Kept (fun b => b = g2) Wk V8 := by rw [eV8]; exact kept6 _ _ (X) (Y) (U) (Vy) (K) (D)
    have hk9 : Kept (fun b => b = g3) V8 V9 := by rw [eV9]; exact kept6 _ _ (X') (Y') (U') (Vy') (zk) (D')
    have hd : Below V9.heap.size V9 V9.drew := (Below.refl _ _).drew
    have HG8 : Hid (OwnV V8 g2 [.int .i64 X, .int .i64 Y, .int .i64 U, .int .i64 Vy, .int .i64 K, .int .i64 D]) := by show OwnV _ _ _; rw [eV8]; exact own6 (unhide HG) (X) (Y) (U) (Vy) (K) (D)
    replace HJ := hide ((unhide HJ).kept hk8 (fun e => by have e : g3 = g2 := e; omega))
    have HJ9 : Hid (OwnV V9 g3 [.int .i64 X', .int .i64 Y', .int .i64 U', .int .i64 Vy', .int .i64 zk, .int .i64 D']) := by show OwnV _ _ _; rw [eV9]; exact own6 (unhide HJ) (X') (Y') (U') (Vy') (zk) (D')
    have HG9 := hide (((unhide HG8).kept hk9 (fun e => by have e : g2 = g3 := e; omega)).step hd)
    replace HJ9 := hide ((unhide HJ9).step hd)
    have HC9 := hide ((((unhide HC).kept hk8 (fun b hb => by have hb : b = g2 := hb; omega)).kept hk9 (fun b hb => by have hb : b = g3 := hb; omega)).below hd)
    have HK9 := hide ((((unhide HK).own hk8 (fun b hb => by have hb : b = g2 := hb; omega)).own hk9 (fun b hb => by have hb : b = g3 := hb; omega)).trans (kept_of_below hd))
    go_region
    rw [← eV8, ← eV9]
    clear eV8 eV9 hk8 hk9 hd HG8
    generalize V9.drew = V10 at *
    go_wp2
    have k0 := (unhide HG9).cell (i := 0) rfl
    have m0 := (unhide HJ9).cell (i := 0) rfl
    have k1 := (unhide HG9).cell (i := 1) rfl
    have m1 := (unhide HJ9).cell (i := 1) rfl
    have k2 := (unhide HG9).cell (i := 2) rfl
    have m2 := (unhide HJ9).cell (i := 2) rfl
    have k3 := (unhide HG9).cell (i := 3) rfl
    have m3 := (unhide HJ9).cell (i := 3) rfl
    have k4 := (unhide HG9).cell (i := 4) rfl
    have m4 := (unhide HJ9).cell (i := 4) rfl
    have k5 := (unhide HG9).cell (i := 5) rfl
    have m5 := (unhide HJ9).cell (i := 5) rfl
    refine bodyPost_ret (v := .tuple #[vShip (X) (Y) (U) (Vy) (K) (D), vShip (X') (Y') (U') (Vy') (zk) (D')]) (by simp [results, Try.results15, go_sem, vShip, k0, k1, k2, k3, k4, k5, m0, m1, m2, m3, m4, m5]) rfl ⟨_, _, _, _, _, _, _, _, _, _, _, _, rfl, unhide HC9, unhide HK9⟩

set_option maxRecDepth 100000 in
set_option maxHeartbeats 8000000 in
theorem drawRightShips_any (v : Value) (n : Nat) (w : World) (h : BytesIn w.heap.size w v n) (hn : n ≤ 1048576) :
    Calls Try.prog 6 #[v] w fun e w' => ∃ X Y U V K D X' Y' U' V' K' D', e = .returned (.tuple #[vShip X Y U V K D, vShip X' Y' U' V' K' D']) ∧ shipB X Y U V K D = true ∧ shipB X' Y' U' V' K' D' = true ∧ Below w.heap.size w w' := by
  have A1 := Below.alloc1 w (.cells #[.int .i64 0, .int .i64 0, .int .i64 0, .int .i64 0, .int .i64 0, .int .i64 0] 25)
  have HG := hide (ownV_alloc w #[.int .i64 0, .int .i64 0, .int .i64 0, .int .i64 0, .int .i64 0, .int .i64 0] 25)
  obtain ⟨Va, eVa⟩ : ∃ V, V = w.alloc (.cells #[.int .i64 0, .int .i64 0, .int .i64 0, .int .i64 0, .int .i64 0, .int .i64 0] 25) := ⟨_, rfl⟩
  rw [← eVa] at A1 HG
  have hsa : Va.heap.size = w.heap.size + 1 := by rw [eVa, World.size_alloc]
  have A2 := Below.alloc1 Va (.cells #[.int .i64 0, .int .i64 0, .int .i64 0, .int .i64 0, .int .i64 0, .int .i64 0] 25)
  have HJ := hide (ownV_alloc Va #[.int .i64 0, .int .i64 0, .int .i64 0, .int .i64 0, .int .i64 0, .int .i64 0] 25)
  obtain ⟨V0, eV0⟩ : ∃ V, V = Va.alloc (.cells #[.int .i64 0, .int .i64 0, .int .i64 0, .int .i64 0, .int .i64 0, .int .i64 0] 25) := ⟨_, rfl⟩
  rw [← eV0] at A2 HJ
  replace HG := hide ((unhide HG).step A2)
  have hA := Below.step A1 A2
  have hs0 : V0.heap.size = w.heap.size + 2 := by rw [eV0, World.size_alloc, hsa]
  rw [hsa] at HJ
  obtain ⟨g2, eg2⟩ : ∃ g, g = w.heap.size := ⟨_, rfl⟩
  obtain ⟨g3, eg3⟩ : ∃ g, g = w.heap.size + 1 := ⟨_, rfl⟩
  rw [← eg2] at HG
  rw [← eg3] at HJ
  have hg2w : w.heap.size ≤ g2 := by omega
  have hg23 : g2 < g3 := by omega
  have hg3V : g3 < V0.heap.size := by omega
  have HW := hide hA
  have HB := hide (bytes_mono (h.below hA (Nat.le_refl _)) (show w.heap.size ≤ V0.heap.size by omega))
  clear h A1 A2 hA
  have QP := hide fun cb W (hW : Cur W cb v n) => l8DrawPair_any cb n v W hW hn
  have QD := hide fun cb W (hW : Cur W cb v n) => l8Draw_any cb n v W hW hn
  go_enter Try.func6, Try.ntmps6
  go_wp2_with fail
  rw [← eVa, ← eV0, ← eg3, ← eg2]
  clear eVa eV0 eg2 eg3 hsa
  refine (l1New_any v n V0 (unhide HB) hn).mono ?_
  rintro e W0 ⟨rfl, hC, hb, hsz⟩
  have HC := hide hC
  replace HG := hide ((unhide HG).step hb)
  replace HJ := hide ((unhide HJ).step hb)
  replace HW := hide (Below.step (unhide HW) hb)
  obtain ⟨cb, ecb⟩ : ∃ c, c = V0.heap.size := ⟨_, rfl⟩
  rw [← ecb] at HC ⊢
  have hcb : g3 < cb := by omega
  have hcw : w.heap.size ≤ cb := by omega
  have hcW : cb < W0.heap.size := by omega
  clear hC hb hsz ecb hs0 hg3V HB
  go_wp2_with fail
  refine (unhide QP cb _ (unhide HC)).mono ?_
  rintro e W2 ⟨X, Y, U, Vy, K, D, X', Y', U', Vy', K', D', rfl, hC, hK⟩
  have hz2 := hK.size
  replace HC := hide hC
  have hwb := (unhide HW).size
  replace HW := hide ((unhide HW).trans (hK.below hwb fun b e => by have e : b = cb := e; omega))
  clear hwb
  replace HG := hide ((unhide HG).kept hK (fun e => by have e : g2 = cb := e; omega))
  replace HJ := hide ((unhide HJ).kept hK (fun e => by have e : g3 = cb := e; omega))
  clear hC hK
  have S1 := hide fun W => specShipOk_any X Y U Vy K D W
  have S2 := hide fun W => specShipOk_any X' Y' U' Vy' K' D' W
  unfold vShip at S1 S2 ⊢
  obtain ⟨ga, ega⟩ : ∃ q, q = W2.heap.size := ⟨_, rfl⟩
  obtain ⟨gb, egb⟩ : ∃ q, q = W2.heap.size + 1 := ⟨_, rfl⟩
  have hg3a : cb < ga := by omega
  have hab : ga < gb := by omega
  obtain ⟨V4, eV4⟩ : ∃ Vq, Vq = W2.alloc (.cells #[.int .i64 X, .int .i64 Y, .int .i64 U, .int .i64 Vy, .int .i64 K, .int .i64 D] 25) := ⟨_, rfl⟩
  have hA4 : Below W2.heap.size W2 V4 := by rw [eV4]; exact Below.alloc1 _ _
  have hs4 : V4.heap.size = W2.heap.size + 1 := by rw [eV4, World.size_alloc]
  have HAa : Hid (OwnV V4 ga [.int .i64 X, .int .i64 Y, .int .i64 U, .int .i64 Vy, .int .i64 K, .int .i64 D]) := by show OwnV _ _ _; rw [eV4, ega]; exact ownV_alloc _ _ _
  obtain ⟨V5, eV5⟩ : ∃ Vq, Vq = V4.alloc (.cells #[.int .i64 X', .int .i64 Y', .int .i64 U', .int .i64 Vy', .int .i64 K', .int .i64 D'] 25) := ⟨_, rfl⟩
  have hA5 : Below V4.heap.size V4 V5 := by rw [eV5]; exact Below.alloc1 _ _
  have HBb : Hid (OwnV V5 gb [.int .i64 X', .int .i64 Y', .int .i64 U', .int .i64 Vy', .int .i64 K', .int .i64 D']) := by show OwnV _ _ _; rw [eV5, egb, ← hs4]; exact ownV_alloc _ _ _
  replace HAa := hide ((unhide HAa).step hA5)
  have hA6 := Below.step hA4 hA5
  replace HG := hide ((unhide HG).step hA6)
  replace HJ := hide ((unhide HJ).step hA6)
  replace HC := hide ((unhide HC).below hA6)
  replace HW := hide (Below.step (unhide HW) hA6)
  go_upto_region 3 with (fail)
  rw [← eV4, ← eV5, ← egb, ← ega]
  clear eV4 eV5 ega egb hA4 hA5 hA6 hs4 hz2 QP
  cases hs1 : shipB X Y U Vy K D with
  | false =>
    rw [hs1] at S1
    have p0 := (unhide HAa).cell (i := 0) rfl
    have p1 := (unhide HAa).cell (i := 1) rfl
    have p2 := (unhide HAa).cell (i := 2) rfl
    have p3 := (unhide HAa).cell (i := 3) rfl
    have p4 := (unhide HAa).cell (i := 4) rfl
    have p5 := (unhide HAa).cell (i := 5) rfl
    have q0 := (unhide HBb).cell (i := 0) rfl
    have q1 := (unhide HBb).cell (i := 1) rfl
    have q2 := (unhide HBb).cell (i := 2) rfl
    have q3 := (unhide HBb).cell (i := 3) rfl
    have q4 := (unhide HBb).cell (i := 4) rfl
    have q5 := (unhide HBb).cell (i := 5) rfl
    go_wp2_with fail
    refine (unhide S1 _).mono ?_
    rintro e W3 ⟨rfl, hb⟩
    replace HG := hide ((unhide HG).step hb)
    replace HJ := hide ((unhide HJ).step hb)
    replace HAa := hide ((unhide HAa).step hb)
    replace HBb := hide ((unhide HBb).step hb)
    replace HC := hide ((unhide HC).below hb)
    replace HW := hide (Below.step (unhide HW) hb)
    clear hb
    clear p0 p1 p2 p3 p4 p5 q0 q1 q2 q3 q4 q5
    clear hs1 S1 S2
    go_upto_region 4 with (fail)
    go_wp2_with fail
    refine (unhide QD cb _ (unhide HC)).mono ?_
    rintro e Z0 ⟨Xa, Ya, Ua, Va, Ka, Da, rfl, hsa, hC, hK⟩
    replace HC := hide hC
    have hwb := (unhide HW).size
    replace HW := hide ((unhide HW).trans (hK.below hwb fun b e => by have e : b = cb := e; omega))
    clear hwb
    replace HG := hide ((unhide HG).kept hK (fun e => by have e : g2 = cb := e; omega))
    replace HJ := hide ((unhide HJ).kept hK (fun e => by have e : g3 = cb := e; omega))
    replace HAa := hide ((unhide HAa).kept hK (fun e => by have e : ga = cb := e; omega))
    replace HBb := hide ((unhide HBb).kept hK (fun e => by have e : gb = cb := e; omega))
    clear hC hK
    unfold vShip
    have c0 := (unhide HAa).cell (i := 0) rfl
    have f0 := (unhide HAa).frozen 0
    have c1 := (unhide HAa).cell (i := 1) rfl
    have f1 := (unhide HAa).frozen 1
    have c2 := (unhide HAa).cell (i := 2) rfl
    have f2 := (unhide HAa).frozen 2
    have c3 := (unhide HAa).cell (i := 3) rfl
    have f3 := (unhide HAa).frozen 3
    have c4 := (unhide HAa).cell (i := 4) rfl
    have f4 := (unhide HAa).frozen 4
    have c5 := (unhide HAa).cell (i := 5) rfl
    have f5 := (unhide HAa).frozen 5
    obtain ⟨Y0, eYn⟩ : ∃ Vq, Vq = (((((Z0.setCell ⟨ga, 0, none⟩ (.int .i64 Xa)).setCell ⟨ga, 1, none⟩ (.int .i64 Ya)).setCell ⟨ga, 2, none⟩ (.int .i64 Ua)).setCell ⟨ga, 3, none⟩ (.int .i64 Va)).setCell ⟨ga, 4, none⟩ (.int .i64 Ka)).setCell ⟨ga, 5, none⟩ (.int .i64 Da) := ⟨_, rfl⟩
    have hkp : Kept (fun b => b = ga) Z0 Y0 := by rw [eYn]; exact kept6 _ _ Xa Ya Ua Va Ka Da
    replace HAa : Hid (OwnV Y0 ga [.int .i64 Xa, .int .i64 Ya, .int .i64 Ua, .int .i64 Va, .int .i64 Ka, .int .i64 Da]) := by show OwnV _ _ _; rw [eYn]; exact own6 (unhide HAa) Xa Ya Ua Va Ka Da
    replace HG := hide ((unhide HG).kept hkp (fun e => by have e : g2 = ga := e; omega))
    replace HJ := hide ((unhide HJ).kept hkp (fun e => by have e : g3 = ga := e; omega))
    replace HBb := hide ((unhide HBb).kept hkp (fun e => by have e : gb = ga := e; omega))
    replace HC := hide ((unhide HC).kept hkp (fun b hb => by have hb : b = ga := hb; omega))
    have hwb := (unhide HW).size
    replace HW := hide ((unhide HW).trans (hkp.below hwb fun b e => by have e : b = ga := e; omega))
    go_upto_region 5 with (fail)
    rw [← eYn]
    clear eYn hkp hwb c0 c1 c2 c3 c4 c5 f0 f1 f2 f3 f4 f5
    go_wp2_with fail
    refine (unhide QD cb _ (unhide HC)).mono ?_
    rintro e Z1 ⟨Xb, Yb, Ub, Vb, Kb, Db, rfl, hsb, hC, hK⟩
    replace HC := hide hC
    have hwb := (unhide HW).size
    replace HW := hide ((unhide HW).trans (hK.below hwb fun b e => by have e : b = cb := e; omega))
    clear hwb
    replace HG := hide ((unhide HG).kept hK (fun e => by have e : g2 = cb := e; omega))
    replace HJ := hide ((unhide HJ).kept hK (fun e => by have e : g3 = cb := e; omega))
    replace HAa := hide ((unhide HAa).kept hK (fun e => by have e : ga = cb := e; omega))
    replace HBb := hide ((unhide HBb).kept hK (fun e => by have e : gb = cb := e; omega))
    clear hC hK
    unfold vShip
    have c0 := (unhide HBb).cell (i := 0) rfl
    have f0 := (unhide HBb).frozen 0
    have c1 := (unhide HBb).cell (i := 1) rfl
    have f1 := (unhide HBb).frozen 1
    have c2 := (unhide HBb).cell (i := 2) rfl
    have f2 := (unhide HBb).frozen 2
    have c3 := (unhide HBb).cell (i := 3) rfl
    have f3 := (unhide HBb).frozen 3
    have c4 := (unhide HBb).cell (i := 4) rfl
    have f4 := (unhide HBb).frozen 4
    have c5 := (unhide HBb).cell (i := 5) rfl
    have f5 := (unhide HBb).frozen 5
    obtain ⟨Y1, eYn⟩ : ∃ Vq, Vq = (((((Z1.setCell ⟨gb, 0, none⟩ (.int .i64 Xb)).setCell ⟨gb, 1, none⟩ (.int .i64 Yb)).setCell ⟨gb, 2, none⟩ (.int .i64 Ub)).setCell ⟨gb, 3, none⟩ (.int .i64 Vb)).setCell ⟨gb, 4, none⟩ (.int .i64 Kb)).setCell ⟨gb, 5, none⟩ (.int .i64 Db) := ⟨_, rfl⟩
    have hkp : Kept (fun b => b = gb) Z1 Y1 := by rw [eYn]; exact kept6 _ _ Xb Yb Ub Vb Kb Db
    replace HBb : Hid (OwnV Y1 gb [.int .i64 Xb, .int .i64 Yb, .int .i64 Ub, .int .i64 Vb, .int .i64 Kb, .int .i64 Db]) := by show OwnV _ _ _; rw [eYn]; exact own6 (unhide HBb) Xb Yb Ub Vb Kb Db
    replace HG := hide ((unhide HG).kept hkp (fun e => by have e : g2 = gb := e; omega))
    replace HJ := hide ((unhide HJ).kept hkp (fun e => by have e : g3 = gb := e; omega))
    replace HAa := hide ((unhide HAa).kept hkp (fun e => by have e : ga = gb := e; omega))
    replace HC := hide ((unhide HC).kept hkp (fun b hb => by have hb : b = gb := hb; omega))
    have hwb := (unhide HW).size
    replace HW := hide ((unhide HW).trans (hkp.below hwb fun b e => by have e : b = gb := e; omega))
    go_upto_region 6 with (fail)
    rw [← eYn]
    clear eYn hkp hwb c0 c1 c2 c3 c4 c5 f0 f1 f2 f3 f4 f5
    have p0 := (unhide HAa).cell (i := 0) rfl
    have p1 := (unhide HAa).cell (i := 1) rfl
    have p2 := (unhide HAa).cell (i := 2) rfl
    have p3 := (unhide HAa).cell (i := 3) rfl
    have p4 := (unhide HAa).cell (i := 4) rfl
    have p5 := (unhide HAa).cell (i := 5) rfl
    have q0 := (unhide HBb).cell (i := 0) rfl
    have q1 := (unhide HBb).cell (i := 1) rfl
    have q2 := (unhide HBb).cell (i := 2) rfl
    have q3 := (unhide HBb).cell (i := 3) rfl
    have q4 := (unhide HBb).cell (i := 4) rfl
    have q5 := (unhide HBb).cell (i := 5) rfl
    have c0 := (unhide HG).cell (i := 0) rfl
    have cf0 := (unhide HG).frozen 0
    have d0 := (unhide HJ).cell (i := 0) rfl
    have df0 := (unhide HJ).frozen 0
    have c1 := (unhide HG).cell (i := 1) rfl
    have cf1 := (unhide HG).frozen 1
    have d1 := (unhide HJ).cell (i := 1) rfl
    have df1 := (unhide HJ).frozen 1
    have c2 := (unhide HG).cell (i := 2) rfl
    have cf2 := (unhide HG).frozen 2
    have d2 := (unhide HJ).cell (i := 2) rfl
    have df2 := (unhide HJ).frozen 2
    have c3 := (unhide HG).cell (i := 3) rfl
    have cf3 := (unhide HG).frozen 3
    have d3 := (unhide HJ).cell (i := 3) rfl
    have df3 := (unhide HJ).frozen 3
    have c4 := (unhide HG).cell (i := 4) rfl
    have cf4 := (unhide HG).frozen 4
    have d4 := (unhide HJ).cell (i := 4) rfl
    have df4 := (unhide HJ).frozen 4
    have c5 := (unhide HG).cell (i := 5) rfl
    have cf5 := (unhide HG).frozen 5
    have d5 := (unhide HJ).cell (i := 5) rfl
    have df5 := (unhide HJ).frozen 5
    obtain ⟨V8, eV8⟩ : ∃ Vq, Vq = (((((Y1.setCell ⟨g2, 0, none⟩ (.int .i64 Xa)).setCell ⟨g2, 1, none⟩ (.int .i64 Ya)).setCell ⟨g2, 2, none⟩ (.int .i64 Ua)).setCell ⟨g2, 3, none⟩ (.int .i64 Va)).setCell ⟨g2, 4, none⟩ (.int .i64 Ka)).setCell ⟨g2, 5, none⟩ (.int .i64 Da) := ⟨_, rfl⟩
    obtain ⟨V9, eV9⟩ : ∃ Vq, Vq = (((((V8.setCell ⟨g3, 0, none⟩ (.int .i64 Xb)).setCell ⟨g3, 1, none⟩ (.int .i64 Yb)).setCell ⟨g3, 2, none⟩ (.int .i64 Ub)).setCell ⟨g3, 3, none⟩ (.int .i64 Vb)).setCell ⟨g3, 4, none⟩ (.int .i64 Kb)).setCell ⟨g3, 5, none⟩ (.int .i64 Db) := ⟨_, rfl⟩
    have hk8 : Kept (fun b => b = g2) Y1 V8 := by rw [eV8]; exact kept6 _ _ (Xa) (Ya) (Ua) (Va) (Ka) (Da)
    have hk9 : Kept (fun b => b = g3) V8 V9 := by rw [eV9]; exact kept6 _ _ (Xb) (Yb) (Ub) (Vb) (Kb) (Db)
    have hd : Below V9.heap.size V9 V9.drew := (Below.refl _ _).drew
    have HG8 : Hid (OwnV V8 g2 [.int .i64 Xa, .int .i64 Ya, .int .i64 Ua, .int .i64 Va, .int .i64 Ka, .int .i64 Da]) := by show OwnV _ _ _; rw [eV8]; exact own6 (unhide HG) (Xa) (Ya) (Ua) (Va) (Ka) (Da)
    replace HJ := hide ((unhide HJ).kept hk8 (fun e => by have e : g3 = g2 := e; omega))
    have HJ9 : Hid (OwnV V9 g3 [.int .i64 Xb, .int .i64 Yb, .int .i64 Ub, .int .i64 Vb, .int .i64 Kb, .int .i64 Db]) := by show OwnV _ _ _; rw [eV9]; exact own6 (unhide HJ) (Xb) (Yb) (Ub) (Vb) (Kb) (Db)
    have HG9 := hide (((unhide HG8).kept hk9 (fun e => by have e : g2 = g3 := e; omega)).step hd)
    replace HJ9 := hide ((unhide HJ9).step hd)
    have hb0 := (unhide HW).size
    have HW8 := hide ((unhide HW).trans (hk8.below hb0 fun b hb => by have hb : b = g2 := hb; omega))
    have hb8 := (unhide HW8).size
    have HW9 := hide (Below.step ((unhide HW8).trans (hk9.below hb8 fun b hb => by have hb : b = g3 := hb; omega)) hd)
    go_region
    rw [← eV8, ← eV9]
    clear eV8 eV9 hk8 hk9 hd HG8
    generalize V9.drew = V10 at *
    go_wp2
    have k0 := (unhide HG9).cell (i := 0) rfl
    have m0 := (unhide HJ9).cell (i := 0) rfl
    have k1 := (unhide HG9).cell (i := 1) rfl
    have m1 := (unhide HJ9).cell (i := 1) rfl
    have k2 := (unhide HG9).cell (i := 2) rfl
    have m2 := (unhide HJ9).cell (i := 2) rfl
    have k3 := (unhide HG9).cell (i := 3) rfl
    have m3 := (unhide HJ9).cell (i := 3) rfl
    have k4 := (unhide HG9).cell (i := 4) rfl
    have m4 := (unhide HJ9).cell (i := 4) rfl
    have k5 := (unhide HG9).cell (i := 5) rfl
    have m5 := (unhide HJ9).cell (i := 5) rfl
    refine bodyPost_ret (v := .tuple #[vShip (Xa) (Ya) (Ua) (Va) (Ka) (Da), vShip (Xb) (Yb) (Ub) (Vb) (Kb) (Db)]) (by simp [results, Try.results6, go_sem, vShip, k0, k1, k2, k3, k4, k5, m0, m1, m2, m3, m4, m5]) rfl ⟨_, _, _, _, _, _, _, _, _, _, _, _, rfl, hsa, hsb, unhide HW9⟩
  | true =>
    rw [hs1] at S1
    have p0 := (unhide HAa).cell (i := 0) rfl
    have p1 := (unhide HAa).cell (i := 1) rfl
    have p2 := (unhide HAa).cell (i := 2) rfl
    have p3 := (unhide HAa).cell (i := 3) rfl
    have p4 := (unhide HAa).cell (i := 4) rfl
    have p5 := (unhide HAa).cell (i := 5) rfl
    have q0 := (unhide HBb).cell (i := 0) rfl
    have q1 := (unhide HBb).cell (i := 1) rfl
    have q2 := (unhide HBb).cell (i := 2) rfl
    have q3 := (unhide HBb).cell (i := 3) rfl
    have q4 := (unhide HBb).cell (i := 4) rfl
    have q5 := (unhide HBb).cell (i := 5) rfl
    go_wp2_with fail
    refine (unhide S1 _).mono ?_
    rintro e W3 ⟨rfl, hb⟩
    replace HG := hide ((unhide HG).step hb)
    replace HJ := hide ((unhide HJ).step hb)
    replace HAa := hide ((unhide HAa).step hb)
    replace HBb := hide ((unhide HBb).step hb)
    replace HC := hide ((unhide HC).below hb)
    replace HW := hide (Below.step (unhide HW) hb)
    clear hb
    clear p0 p1 p2 p3 p4 p5 q0 q1 q2 q3 q4 q5
    have p0 := (unhide HAa).cell (i := 0) rfl
    have p1 := (unhide HAa).cell (i := 1) rfl
    have p2 := (unhide HAa).cell (i := 2) rfl
    have p3 := (unhide HAa).cell (i := 3) rfl
    have p4 := (unhide HAa).cell (i := 4) rfl
    have p5 := (unhide HAa).cell (i := 5) rfl
    have q0 := (unhide HBb).cell (i := 0) rfl
    have q1 := (unhide HBb).cell (i := 1) rfl
    have q2 := (unhide HBb).cell (i := 2) rfl
    have q3 := (unhide HBb).cell (i := 3) rfl
    have q4 := (unhide HBb).cell (i := 4) rfl
    have q5 := (unhide HBb).cell (i := 5) rfl
    cases hs2 : shipB X' Y' U' Vy' K' D' with
    | false =>
      rw [hs2] at S2
      go_wp2_with fail
      refine (unhide S2 _).mono ?_
      rintro e W4 ⟨rfl, hb⟩
      replace HG := hide ((unhide HG).step hb)
      replace HJ := hide ((unhide HJ).step hb)
      replace HAa := hide ((unhide HAa).step hb)
      replace HBb := hide ((unhide HBb).step hb)
      replace HC := hide ((unhide HC).below hb)
      replace HW := hide (Below.step (unhide HW) hb)
      clear hb
      clear p0 p1 p2 p3 p4 p5 q0 q1 q2 q3 q4 q5
      clear hs1 hs2 S1 S2
      go_upto_region 4 with (fail)
      go_wp2_with fail
      refine (unhide QD cb _ (unhide HC)).mono ?_
      rintro e Z0 ⟨Xa, Ya, Ua, Va, Ka, Da, rfl, hsa, hC, hK⟩
      replace HC := hide hC
      have hwb := (unhide HW).size
      replace HW := hide ((unhide HW).trans (hK.below hwb fun b e => by have e : b = cb := e; omega))
      clear hwb
      replace HG := hide ((unhide HG).kept hK (fun e => by have e : g2 = cb := e; omega))
      replace HJ := hide ((unhide HJ).kept hK (fun e => by have e : g3 = cb := e; omega))
      replace HAa := hide ((unhide HAa).kept hK (fun e => by have e : ga = cb := e; omega))
      replace HBb := hide ((unhide HBb).kept hK (fun e => by have e : gb = cb := e; omega))
      clear hC hK
      unfold vShip
      have c0 := (unhide HAa).cell (i := 0) rfl
      have f0 := (unhide HAa).frozen 0
      have c1 := (unhide HAa).cell (i := 1) rfl
      have f1 := (unhide HAa).frozen 1
      have c2 := (unhide HAa).cell (i := 2) rfl
      have f2 := (unhide HAa).frozen 2
      have c3 := (unhide HAa).cell (i := 3) rfl
      have f3 := (unhide HAa).frozen 3
      have c4 := (unhide HAa).cell (i := 4) rfl
      have f4 := (unhide HAa).frozen 4
      have c5 := (unhide HAa).cell (i := 5) rfl
      have f5 := (unhide HAa).frozen 5
      obtain ⟨Y0, eYn⟩ : ∃ Vq, Vq = (((((Z0.setCell ⟨ga, 0, none⟩ (.int .i64 Xa)).setCell ⟨ga, 1, none⟩ (.int .i64 Ya)).setCell ⟨ga, 2, none⟩ (.int .i64 Ua)).setCell ⟨ga, 3, none⟩ (.int .i64 Va)).setCell ⟨ga, 4, none⟩ (.int .i64 Ka)).setCell ⟨ga, 5, none⟩ (.int .i64 Da) := ⟨_, rfl⟩
      have hkp : Kept (fun b => b = ga) Z0 Y0 := by rw [eYn]; exact kept6 _ _ Xa Ya Ua Va Ka Da
      replace HAa : Hid (OwnV Y0 ga [.int .i64 Xa, .int .i64 Ya, .int .i64 Ua, .int .i64 Va, .int .i64 Ka, .int .i64 Da]) := by show OwnV _ _ _; rw [eYn]; exact own6 (unhide HAa) Xa Ya Ua Va Ka Da
      replace HG := hide ((unhide HG).kept hkp (fun e => by have e : g2 = ga := e; omega))
      replace HJ := hide ((unhide HJ).kept hkp (fun e => by have e : g3 = ga := e; omega))
      replace HBb := hide ((unhide HBb).kept hkp (fun e => by have e : gb = ga := e; omega))
      replace HC := hide ((unhide HC).kept hkp (fun b hb => by have hb : b = ga := hb; omega))
      have hwb := (unhide HW).size
      replace HW := hide ((unhide HW).trans (hkp.below hwb fun b e => by have e : b = ga := e; omega))
      go_upto_region 5 with (fail)
      rw [← eYn]
      clear eYn hkp hwb c0 c1 c2 c3 c4 c5 f0 f1 f2 f3 f4 f5
      go_wp2_with fail
      refine (unhide QD cb _ (unhide HC)).mono ?_
      rintro e Z1 ⟨Xb, Yb, Ub, Vb, Kb, Db, rfl, hsb, hC, hK⟩
      replace HC := hide hC
      have hwb := (unhide HW).size
      replace HW := hide ((unhide HW).trans (hK.below hwb fun b e => by have e : b = cb := e; omega))
      clear hwb
      replace HG := hide ((unhide HG).kept hK (fun e => by have e : g2 = cb := e; omega))
      replace HJ := hide ((unhide HJ).kept hK (fun e => by have e : g3 = cb := e; omega))
      replace HAa := hide ((unhide HAa).kept hK (fun e => by have e : ga = cb := e; omega))
      replace HBb := hide ((unhide HBb).kept hK (fun e => by have e : gb = cb := e; omega))
      clear hC hK
      unfold vShip
      have c0 := (unhide HBb).cell (i := 0) rfl
      have f0 := (unhide HBb).frozen 0
      have c1 := (unhide HBb).cell (i := 1) rfl
      have f1 := (unhide HBb).frozen 1
      have c2 := (unhide HBb).cell (i := 2) rfl
      have f2 := (unhide HBb).frozen 2
      have c3 := (unhide HBb).cell (i := 3) rfl
      have f3 := (unhide HBb).frozen 3
      have c4 := (unhide HBb).cell (i := 4) rfl
      have f4 := (unhide HBb).frozen 4
      have c5 := (unhide HBb).cell (i := 5) rfl
      have f5 := (unhide HBb).frozen 5
      obtain ⟨Y1, eYn⟩ : ∃ Vq, Vq = (((((Z1.setCell ⟨gb, 0, none⟩ (.int .i64 Xb)).setCell ⟨gb, 1, none⟩ (.int .i64 Yb)).setCell ⟨gb, 2, none⟩ (.int .i64 Ub)).setCell ⟨gb, 3, none⟩ (.int .i64 Vb)).setCell ⟨gb, 4, none⟩ (.int .i64 Kb)).setCell ⟨gb, 5, none⟩ (.int .i64 Db) := ⟨_, rfl⟩
      have hkp : Kept (fun b => b = gb) Z1 Y1 := by rw [eYn]; exact kept6 _ _ Xb Yb Ub Vb Kb Db
      replace HBb : Hid (OwnV Y1 gb [.int .i64 Xb, .int .i64 Yb, .int .i64 Ub, .int .i64 Vb, .int .i64 Kb, .int .i64 Db]) := by show OwnV _ _ _; rw [eYn]; exact own6 (unhide HBb) Xb Yb Ub Vb Kb Db
      replace HG := hide ((unhide HG).kept hkp (fun e => by have e : g2 = gb := e; omega))
      replace HJ := hide ((unhide HJ).kept hkp (fun e => by have e : g3 = gb := e; omega))
      replace HAa := hide ((unhide HAa).kept hkp (fun e => by have e : ga = gb := e; omega))
      replace HC := hide ((unhide HC).kept hkp (fun b hb => by have hb : b = gb := hb; omega))
      have hwb := (unhide HW).size
      replace HW := hide ((unhide HW).trans (hkp.below hwb fun b e => by have e : b = gb := e; omega))
      go_upto_region 6 with (fail)
      rw [← eYn]
      clear eYn hkp hwb c0 c1 c2 c3 c4 c5 f0 f1 f2 f3 f4 f5
      have p0 := (unhide HAa).cell (i := 0) rfl
      have p1 := (unhide HAa).cell (i := 1) rfl
      have p2 := (unhide HAa).cell (i := 2) rfl
      have p3 := (unhide HAa).cell (i := 3) rfl
      have p4 := (unhide HAa).cell (i := 4) rfl
      have p5 := (unhide HAa).cell (i := 5) rfl
      have q0 := (unhide HBb).cell (i := 0) rfl
      have q1 := (unhide HBb).cell (i := 1) rfl
      have q2 := (unhide HBb).cell (i := 2) rfl
      have q3 := (unhide HBb).cell (i := 3) rfl
      have q4 := (unhide HBb).cell (i := 4) rfl
      have q5 := (unhide HBb).cell (i := 5) rfl
      have c0 := (unhide HG).cell (i := 0) rfl
      have cf0 := (unhide HG).frozen 0
      have d0 := (unhide HJ).cell (i := 0) rfl
      have df0 := (unhide HJ).frozen 0
      have c1 := (unhide HG).cell (i := 1) rfl
      have cf1 := (unhide HG).frozen 1
      have d1 := (unhide HJ).cell (i := 1) rfl
      have df1 := (unhide HJ).frozen 1
      have c2 := (unhide HG).cell (i := 2) rfl
      have cf2 := (unhide HG).frozen 2
      have d2 := (unhide HJ).cell (i := 2) rfl
      have df2 := (unhide HJ).frozen 2
      have c3 := (unhide HG).cell (i := 3) rfl
      have cf3 := (unhide HG).frozen 3
      have d3 := (unhide HJ).cell (i := 3) rfl
      have df3 := (unhide HJ).frozen 3
      have c4 := (unhide HG).cell (i := 4) rfl
      have cf4 := (unhide HG).frozen 4
      have d4 := (unhide HJ).cell (i := 4) rfl
      have df4 := (unhide HJ).frozen 4
      have c5 := (unhide HG).cell (i := 5) rfl
      have cf5 := (unhide HG).frozen 5
      have d5 := (unhide HJ).cell (i := 5) rfl
      have df5 := (unhide HJ).frozen 5
      obtain ⟨V8, eV8⟩ : ∃ Vq, Vq = (((((Y1.setCell ⟨g2, 0, none⟩ (.int .i64 Xa)).setCell ⟨g2, 1, none⟩ (.int .i64 Ya)).setCell ⟨g2, 2, none⟩ (.int .i64 Ua)).setCell ⟨g2, 3, none⟩ (.int .i64 Va)).setCell ⟨g2, 4, none⟩ (.int .i64 Ka)).setCell ⟨g2, 5, none⟩ (.int .i64 Da) := ⟨_, rfl⟩
      obtain ⟨V9, eV9⟩ : ∃ Vq, Vq = (((((V8.setCell ⟨g3, 0, none⟩ (.int .i64 Xb)).setCell ⟨g3, 1, none⟩ (.int .i64 Yb)).setCell ⟨g3, 2, none⟩ (.int .i64 Ub)).setCell ⟨g3, 3, none⟩ (.int .i64 Vb)).setCell ⟨g3, 4, none⟩ (.int .i64 Kb)).setCell ⟨g3, 5, none⟩ (.int .i64 Db) := ⟨_, rfl⟩
      have hk8 : Kept (fun b => b = g2) Y1 V8 := by rw [eV8]; exact kept6 _ _ (Xa) (Ya) (Ua) (Va) (Ka) (Da)
      have hk9 : Kept (fun b => b = g3) V8 V9 := by rw [eV9]; exact kept6 _ _ (Xb) (Yb) (Ub) (Vb) (Kb) (Db)
      have hd : Below V9.heap.size V9 V9.drew := (Below.refl _ _).drew
      have HG8 : Hid (OwnV V8 g2 [.int .i64 Xa, .int .i64 Ya, .int .i64 Ua, .int .i64 Va, .int .i64 Ka, .int .i64 Da]) := by show OwnV _ _ _; rw [eV8]; exact own6 (unhide HG) (Xa) (Ya) (Ua) (Va) (Ka) (Da)
      replace HJ := hide ((unhide HJ).kept hk8 (fun e => by have e : g3 = g2 := e; omega))
      have HJ9 : Hid (OwnV V9 g3 [.int .i64 Xb, .int .i64 Yb, .int .i64 Ub, .int .i64 Vb, .int .i64 Kb, .int .i64 Db]) := by show OwnV _ _ _; rw [eV9]; exact own6 (unhide HJ) (Xb) (Yb) (Ub) (Vb) (Kb) (Db)
      have HG9 := hide (((unhide HG8).kept hk9 (fun e => by have e : g2 = g3 := e; omega)).step hd)
      replace HJ9 := hide ((unhide HJ9).step hd)
      have hb0 := (unhide HW).size
      have HW8 := hide ((unhide HW).trans (hk8.below hb0 fun b hb => by have hb : b = g2 := hb; omega))
      have hb8 := (unhide HW8).size
      have HW9 := hide (Below.step ((unhide HW8).trans (hk9.below hb8 fun b hb => by have hb : b = g3 := hb; omega)) hd)
      go_region
      rw [← eV8, ← eV9]
      clear eV8 eV9 hk8 hk9 hd HG8
      generalize V9.drew = V10 at *
      go_wp2
      have k0 := (unhide HG9).cell (i := 0) rfl
      have m0 := (unhide HJ9).cell (i := 0) rfl
      have k1 := (unhide HG9).cell (i := 1) rfl
      have m1 := (unhide HJ9).cell (i := 1) rfl
      have k2 := (unhide HG9).cell (i := 2) rfl
      have m2 := (unhide HJ9).cell (i := 2) rfl
      have k3 := (unhide HG9).cell (i := 3) rfl
      have m3 := (unhide HJ9).cell (i := 3) rfl
      have k4 := (unhide HG9).cell (i := 4) rfl
      have m4 := (unhide HJ9).cell (i := 4) rfl
      have k5 := (unhide HG9).cell (i := 5) rfl
      have m5 := (unhide HJ9).cell (i := 5) rfl
      refine bodyPost_ret (v := .tuple #[vShip (Xa) (Ya) (Ua) (Va) (Ka) (Da), vShip (Xb) (Yb) (Ub) (Vb) (Kb) (Db)]) (by simp [results, Try.results6, go_sem, vShip, k0, k1, k2, k3, k4, k5, m0, m1, m2, m3, m4, m5]) rfl ⟨_, _, _, _, _, _, _, _, _, _, _, _, rfl, hsa, hsb, unhide HW9⟩
    | true =>
      rw [hs2] at S2
      go_wp2_with fail
      refine (unhide S2 _).mono ?_
      rintro e W4 ⟨rfl, hb⟩
      replace HG := hide ((unhide HG).step hb)
      replace HJ := hide ((unhide HJ).step hb)
      replace HAa := hide ((unhide HAa).step hb)
      replace HBb := hide ((unhide HBb).step hb)
      replace HC := hide ((unhide HC).below hb)
      replace HW := hide (Below.step (unhide HW) hb)
      clear hb
      clear p0 p1 p2 p3 p4 p5 q0 q1 q2 q3 q4 q5
      clear S1 S2
      have hsa := hs1
      have hsb := hs2
      have HHA := hide hsa
      have HHB := hide hsb
      clear hs1 hs2 hsa hsb
      go_upto_region 6 with (fail)
      have p0 := (unhide HAa).cell (i := 0) rfl
      have p1 := (unhide HAa).cell (i := 1) rfl
      have p2 := (unhide HAa).cell (i := 2) rfl
      have p3 := (unhide HAa).cell (i := 3) rfl
      have p4 := (unhide HAa).cell (i := 4) rfl
      have p5 := (unhide HAa).cell (i := 5) rfl
      have q0 := (unhide HBb).cell (i := 0) rfl
      have q1 := (unhide HBb).cell (i := 1) rfl
      have q2 := (unhide HBb).cell (i := 2) rfl
      have q3 := (unhide HBb).cell (i := 3) rfl
      have q4 := (unhide HBb).cell (i := 4) rfl
      have q5 := (unhide HBb).cell (i := 5) rfl
      have c0 := (unhide HG).cell (i := 0) rfl
      have cf0 := (unhide HG).frozen 0
      have d0 := (unhide HJ).cell (i := 0) rfl
      have df0 := (unhide HJ).frozen 0
      have c1 := (unhide HG).cell (i := 1) rfl
      have cf1 := (unhide HG).frozen 1
      have d1 := (unhide HJ).cell (i := 1) rfl
      have df1 := (unhide HJ).frozen 1
      have c2 := (unhide HG).cell (i := 2) rfl
      have cf2 := (unhide HG).frozen 2
      have d2 := (unhide HJ).cell (i := 2) rfl
      have df2 := (unhide HJ).frozen 2
      have c3 := (unhide HG).cell (i := 3) rfl
      have cf3 := (unhide HG).frozen 3
      have d3 := (unhide HJ).cell (i := 3) rfl
      have df3 := (unhide HJ).frozen 3
      have c4 := (unhide HG).cell (i := 4) rfl
      have cf4 := (unhide HG).frozen 4
      have d4 := (unhide HJ).cell (i := 4) rfl
      have df4 := (unhide HJ).frozen 4
      have c5 := (unhide HG).cell (i := 5) rfl
      have cf5 := (unhide HG).frozen 5
      have d5 := (unhide HJ).cell (i := 5) rfl
      have df5 := (unhide HJ).frozen 5
      obtain ⟨V8, eV8⟩ : ∃ Vq, Vq = (((((W4.setCell ⟨g2, 0, none⟩ (.int .i64 X)).setCell ⟨g2, 1, none⟩ (.int .i64 Y)).setCell ⟨g2, 2, none⟩ (.int .i64 U)).setCell ⟨g2, 3, none⟩ (.int .i64 Vy)).setCell ⟨g2, 4, none⟩ (.int .i64 K)).setCell ⟨g2, 5, none⟩ (.int .i64 D) := ⟨_, rfl⟩
      obtain ⟨V9, eV9⟩ : ∃ Vq, Vq = (((((V8.setCell ⟨g3, 0, none⟩ (.int .i64 X')).setCell ⟨g3, 1, none⟩ (.int .i64 Y')).setCell ⟨g3, 2, none⟩ (.int .i64 U')).setCell ⟨g3, 3, none⟩ (.int .i64 Vy')).setCell ⟨g3, 4, none⟩ (.int .i64 K')).setCell ⟨g3, 5, none⟩ (.int .i64 D') := ⟨_, rfl⟩
      have hk8 : Kept (fun b => b = g2) W4 V8 := by rw [eV8]; exact kept6 _ _ (X) (Y) (U) (Vy) (K) (D)
      have hk9 : Kept (fun b => b = g3) V8 V9 := by rw [eV9]; exact kept6 _ _ (X') (Y') (U') (Vy') (K') (D')
      have hd : Below V9.heap.size V9 V9.drew := (Below.refl _ _).drew
      have HG8 : Hid (OwnV V8 g2 [.int .i64 X, .int .i64 Y, .int .i64 U, .int .i64 Vy, .int .i64 K, .int .i64 D]) := by show OwnV _ _ _; rw [eV8]; exact own6 (unhide HG) (X) (Y) (U) (Vy) (K) (D)
      replace HJ := hide ((unhide HJ).kept hk8 (fun e => by have e : g3 = g2 := e; omega))
      have HJ9 : Hid (OwnV V9 g3 [.int .i64 X', .int .i64 Y', .int .i64 U', .int .i64 Vy', .int .i64 K', .int .i64 D']) := by show OwnV _ _ _; rw [eV9]; exact own6 (unhide HJ) (X') (Y') (U') (Vy') (K') (D')
      have HG9 := hide (((unhide HG8).kept hk9 (fun e => by have e : g2 = g3 := e; omega)).step hd)
      replace HJ9 := hide ((unhide HJ9).step hd)
      have hb0 := (unhide HW).size
      have HW8 := hide ((unhide HW).trans (hk8.below hb0 fun b hb => by have hb : b = g2 := hb; omega))
      have hb8 := (unhide HW8).size
      have HW9 := hide (Below.step ((unhide HW8).trans (hk9.below hb8 fun b hb => by have hb : b = g3 := hb; omega)) hd)
      go_region
      rw [← eV8, ← eV9]
      clear eV8 eV9 hk8 hk9 hd HG8
      generalize V9.drew = V10 at *
      go_wp2
      have k0 := (unhide HG9).cell (i := 0) rfl
      have m0 := (unhide HJ9).cell (i := 0) rfl
      have k1 := (unhide HG9).cell (i := 1) rfl
      have m1 := (unhide HJ9).cell (i := 1) rfl
      have k2 := (unhide HG9).cell (i := 2) rfl
      have m2 := (unhide HJ9).cell (i := 2) rfl
      have k3 := (unhide HG9).cell (i := 3) rfl
      have m3 := (unhide HJ9).cell (i := 3) rfl
      have k4 := (unhide HG9).cell (i := 4) rfl
      have m4 := (unhide HJ9).cell (i := 4) rfl
      have k5 := (unhide HG9).cell (i := 5) rfl
      have m5 := (unhide HJ9).cell (i := 5) rfl
      refine bodyPost_ret (v := .tuple #[vShip (X) (Y) (U) (Vy) (K) (D), vShip (X') (Y') (U') (Vy') (K') (D')]) (by simp [results, Try.results6, go_sem, vShip, k0, k1, k2, k3, k4, k5, m0, m1, m2, m3, m4, m5]) rfl ⟨_, _, _, _, _, _, _, _, _, _, _, _, rfl, unhide HHA, unhide HHB, unhide HW9⟩

end Go.Proofs.Ytcljgaofpeaplaa
