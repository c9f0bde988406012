/- What is drawn for FnHoists: a hoist that is right and not loaded beyond its limit where it goes up, and signals. Written by wip/mkhsd.py. No statement about the program stands here. -/
import Derived.Test.YtgmhijbepkobkaaHoN
import Derived.Test.YtgmhijbepkobkaaHoA
import Derived.Test.YtgmhijbepkobkaaRowK
namespace Go.Proofs.Ytgmhijbepkobkaa
open Go.RowKit

theorem own7 {W : World} {g : Nat} {a0 a1 a2 a3 a4 a5 a6 : Value} (h : OwnV W g [a0, a1, a2, a3, a4, a5, a6]) (x0 x1 x2 x3 x4 x5 x6 : Int) : OwnV (((((((W.setCell ⟨g, 0, none⟩ (.int .i64 x0)).setCell ⟨g, 1, none⟩ (.int .i64 x1)).setCell ⟨g, 2, none⟩ (.int .i64 x2)).setCell ⟨g, 3, none⟩ (.int .i64 x3)).setCell ⟨g, 4, none⟩ (.int .i64 x4)).setCell ⟨g, 5, none⟩ (.int .i64 x5)).setCell ⟨g, 6, none⟩ (.int .i64 x6)) g [.int .i64 x0, .int .i64 x1, .int .i64 x2, .int .i64 x3, .int .i64 x4, .int .i64 x5, .int .i64 x6] :=
  ((((((h.set 0 _ (by simp)).set 1 _ (by simp)).set 2 _ (by simp)).set 3 _ (by simp)).set 4 _ (by simp)).set 5 _ (by simp)).set 6 _ (by simp)
theorem kept7 (W : World) (g : Nat) (x0 x1 x2 x3 x4 x5 x6 : Int) : Kept (fun b => b = g) W (((((((W.setCell ⟨g, 0, none⟩ (.int .i64 x0)).setCell ⟨g, 1, none⟩ (.int .i64 x1)).setCell ⟨g, 2, none⟩ (.int .i64 x2)).setCell ⟨g, 3, none⟩ (.int .i64 x3)).setCell ⟨g, 4, none⟩ (.int .i64 x4)).setCell ⟨g, 5, none⟩ (.int .i64 x5)).setCell ⟨g, 6, none⟩ (.int .i64 x6)) :=
  ((((((kept1 W g 0 _).trans (kept1 _ g 1 _)).trans (kept1 _ g 2 _)).trans (kept1 _ g 3 _)).trans (kept1 _ g 4 _)).trans (kept1 _ g 5 _)).trans (kept1 _ g 6 _)

theorem bytes_up {B B' : Nat} {w : World} {v : Value} {n : Nat} (h : BytesIn B w v n) (hB : B ≤ B') : BytesIn B' w v n := by
  obtain ⟨ao, cap, e, h1, h2, h3⟩ := h
  refine ⟨ao, cap, e, h1, h2, fun i hi => ?_⟩
  obtain ⟨b, o, x, e1, hlt, hc, hx⟩ := h3 i hi
  exact ⟨b, o, x, e1, by omega, hc, hx⟩
theorem own2 {W : World} {g : Nat} {a0 a1 : Value} (h : OwnV W g [a0, a1]) (x0 x1 : Int) : OwnV ((W.setCell ⟨g, 0, none⟩ (.int .i64 x0)).setCell ⟨g, 1, none⟩ (.int .i64 x1)) g [.int .i64 x0, .int .i64 x1] := (h.set 0 _ (by simp)).set 1 _ (by simp)
theorem kept2 (W : World) (g : Nat) (x0 x1 : Int) : Kept (fun b => b = g) W ((W.setCell ⟨g, 0, none⟩ (.int .i64 x0)).setCell ⟨g, 1, none⟩ (.int .i64 x1)) := (kept1 W g 0 _).trans (kept1 _ g 1 _)
theorem tySignal : RecTy 38 44 2 eSignal := recTy_mk Try.underlying38 Try.infoSignal rfl (by decide) (by decide) (fun x j hj => by
  have : j = 0 ∨ j = 1 := by omega
  rcases this with e | e <;> subst e <;> rfl)
theorem rowB_at {α : Type} [Inhabited α] {T : TypeId} {n : Nat} {enc : α → Nat → Value} {B : Nat} {w : World} {ao : Option Addr} {m cap : Nat} {L : List α} (h : RowB T n enc B w ao m cap L) (hn : 0 < n) : ∀ b, ao = some ⟨b, 0, none⟩ → B ≤ b := fun b e => by
  rcases h.parts hn with ⟨e2, _⟩ | ⟨g, e2, hg, _⟩
  · rw [e] at e2; cases e2
  · rw [e] at e2; simp only [Option.some.injEq, Addr.mk.injEq, and_true] at e2; omega
theorem bad_of {h : Ho} (e : hoB h = false ∨ (h.q = 1 ∧ h.lm < h.ld)) : goodH h = false := by
  unfold goodH
  rcases e with e | ⟨e1, e2⟩
  · rw [e]; rfl
  · rw [decide_eq_true e1, decide_eq_true e2]; simp
theorem good_of {h : Ho} (e : hoB h = true) (e2 : ¬ (h.q = 1 ∧ h.lm < h.ld)) : goodH h = true := by
  unfold goodH
  rw [e, Bool.true_and]
  by_cases e1 : h.q = 1
  · by_cases e3 : h.lm < h.ld
    · exact absurd ⟨e1, e3⟩ e2
    · simp [e3]
  · simp [e1]

set_option maxRecDepth 100000 in
set_option maxHeartbeats 8000000 in
theorem l20DrawHoist_x (cb n i : Nat) (v : Value) (h0 : Int) (w : World) (h : CurX w cb v n i h0) :
    Calls Try.prog 51 #[.pointer (some ⟨cb, 0, none⟩)] w fun e w' => ∃ H i' h', e = .returned (vHoist H.q H.ld H.he H.lw H.hg H.lm H.rs) ∧ DrH n i h0 H i' h' ∧ CurX w' cb v n i' h' ∧ KC cb w w' := by
  have QB := hide fun i hh W (hW : CurX W cb v n i hh) k h0 h1 => l1Below_x cb n i v hh k W hW h0 h1
  have hcb := h.lt
  have hA := Below.alloc1 w (.cells #[.int .i64 0, .int .i64 0, .int .i64 0, .int .i64 0, .int .i64 0, .int .i64 0, .int .i64 0] 37)
  have HG := hide (ownV_alloc w #[.int .i64 0, .int .i64 0, .int .i64 0, .int .i64 0, .int .i64 0, .int .i64 0, .int .i64 0] 37)
  obtain ⟨V0, eV0⟩ : ∃ V, V = w.alloc (.cells #[.int .i64 0, .int .i64 0, .int .i64 0, .int .i64 0, .int .i64 0, .int .i64 0, .int .i64 0] 37) := ⟨_, rfl⟩
  rw [← eV0] at hA HG
  have HC := hide (h.below hA)
  have HK := hide (kept_of_below (T := fun b => b = cb) hA)
  obtain ⟨g2, eg2⟩ : ∃ g, g = w.heap.size := ⟨_, rfl⟩
  rw [← eg2] at HG
  have hg2 : cb < g2 := by omega
  have hg2w : w.heap.size ≤ g2 := by omega
  clear h hA
  go_enter Try.func51, Try.ntmps51
  go_wp2_with fail
  rw [← eV0, ← eg2]
  clear eV0 eg2
  refine (unhide QB i h0 _ (unhide HC) 5 (by omega) (by omega)).mono ?_
  rintro e W1 ⟨a, i1, rfl, ha0, ha1, hS, hC, hK⟩
  have S1 := hide hS
  clear hS
  replace HC := hide hC
  replace HG := hide ((unhide HG).kept hK (fun e => by have e : g2 = cb := e; omega))
  replace HK := hide ((unhide HK).trans hK)
  clear hC hK
  go_wp2_with fail
  refine (unhide QB i1 (lcg h0) _ (unhide HC) 4 (by omega) (by omega)).mono ?_
  rintro e W2 ⟨q, i2, rfl, hq0, hq1, hS, hC, hK⟩
  have S2 := hide hS
  clear hS
  replace HC := hide hC
  replace HG := hide ((unhide HG).kept hK (fun e => by have e : g2 = cb := e; omega))
  replace HK := hide ((unhide HK).trans hK)
  clear hC hK
  go_wp2_with fail
  refine (unhide QB i2 (lcg (lcg h0)) _ (unhide HC) 30 (by omega) (by omega)).mono ?_
  rintro e W3 ⟨ld, i3, rfl, hld0, hld1, hS, hC, hK⟩
  have S3 := hide hS
  clear hS
  replace HC := hide hC
  replace HG := hide ((unhide HG).kept hK (fun e => by have e : g2 = cb := e; omega))
  replace HK := hide ((unhide HK).trans hK)
  clear hC hK
  go_wp2_with fail
  refine (unhide QB i3 (lcg (lcg (lcg h0))) _ (unhide HC) 5 (by omega) (by omega)).mono ?_
  rintro e W4 ⟨hx, i4, rfl, hhx0, hhx1, hS, hC, hK⟩
  have S4 := hide hS
  clear hS
  replace HC := hide hC
  replace HG := hide ((unhide HG).kept hK (fun e => by have e : g2 = cb := e; omega))
  replace HK := hide ((unhide HK).trans hK)
  clear hC hK
  obtain ⟨he, ehe⟩ : ∃ z, z = a + hx := ⟨_, rfl⟩
  have qhe : IntKind.i64.wrap (a + hx) = he := by rw [← ehe, IntKind.wrap_i64]; omega
  have phe : a + hx = he := ehe.symm
  have bhe : 0 ≤ he ∧ he ≤ 10 := by omega
  have Ehe := hide ehe
  clear ehe
  go_wp2_with fail
  refine (unhide QB i4 (lcg (lcg (lcg (lcg h0)))) _ (unhide HC) 15 (by omega) (by omega)).mono ?_
  rintro e W5 ⟨lx, i5, rfl, hlx0, hlx1, hS, hC, hK⟩
  have S5 := hide hS
  clear hS
  replace HC := hide hC
  replace HG := hide ((unhide HG).kept hK (fun e => by have e : g2 = cb := e; omega))
  replace HK := hide ((unhide HK).trans hK)
  clear hC hK
  obtain ⟨lm, elm⟩ : ∃ z, z = 10 + lx := ⟨_, rfl⟩
  have qlm : IntKind.i64.wrap (10 + lx) = lm := by rw [← elm, IntKind.wrap_i64]; omega
  have plm : 10 + lx = lm := elm.symm
  have blm : 10 ≤ lm ∧ lm ≤ 30 := by omega
  have Elm := hide elm
  clear elm
  go_wp2_with fail
  refine (unhide QB i5 (lcg (lcg (lcg (lcg (lcg h0))))) _ (unhide HC) 2 (by omega) (by omega)).mono ?_
  rintro e W6 ⟨rs, i6, rfl, hrs0, hrs1, hS, hC, hK⟩
  have S6 := hide hS
  clear hS
  replace HC := hide hC
  replace HG := hide ((unhide HG).kept hK (fun e => by have e : g2 = cb := e; omega))
  replace HK := hide ((unhide HK).trans hK)
  clear hC hK
  obtain ⟨gs, egs⟩ : ∃ q, q = W6.heap.size := ⟨_, rfl⟩
  have hgs : g2 < gs := by have := (unhide HG).lt; omega
  obtain ⟨V5, eV5⟩ : ∃ V, V = W6.alloc (.cells #[.int .i64 q, .int .i64 ld, .int .i64 he, .int .i64 a, .int .i64 0, .int .i64 lm, .int .i64 rs] 37) := ⟨_, rfl⟩
  have hA5 : Below W6.heap.size W6 V5 := by rw [eV5]; exact Below.alloc1 _ _
  have HS : Hid (OwnV V5 gs [.int .i64 q, .int .i64 ld, .int .i64 he, .int .i64 a, .int .i64 0, .int .i64 lm, .int .i64 rs]) := by show OwnV _ _ _; rw [eV5, egs]; exact ownV_alloc _ _ _
  replace HG := hide ((unhide HG).step hA5)
  replace HC := hide ((unhide HC).below hA5)
  replace HK := hide ((unhide HK).trans (kept_of_below hA5))
  go_upto_region 3 with (fail)
  rw [← eV5, ← egs]
  clear eV5 egs hA5 qhe phe qlm plm
  have x2 := (unhide HS).cell (i := 2) rfl
  have xz := (unhide HS).cell (i := 4) rfl
  have xf := (unhide HS).frozen 4
  go_wp2
  have hd : Below V5.heap.size V5 V5.drew := (Below.refl _ _).drew
  replace HG := hide ((unhide HG).step hd)
  replace HS := hide ((unhide HS).step hd)
  replace HC := hide ((unhide HC).below hd)
  replace HK := hide ((unhide HK).trans (kept_of_below hd))
  clear hd x2 xz xf
  have x2 := (unhide HS).cell (i := 2) rfl
  have xz := (unhide HS).cell (i := 4) rfl
  have xf := (unhide HS).frozen 4
  go_region_held3 (fun w' => w'.cell? ⟨gs, 2, none⟩ = some (.int .i64 he)) (first | go_keep | exact ((unhide HS).set 4 _ (by simp)).cell (i := 2) rfl) (first
    | (go_at_call 52; refine (unhide QB i6 (lcg (lcg (lcg (lcg (lcg (lcg h0)))))) _ (unhide HC) 4 (by omega) (by omega)).mono ?_; rintro e U4 ⟨gx, i7, rfl, hgx0, hgx1, hS, hC, hK⟩; have S7 := hide hS; replace HC := hide hC; replace HG := hide ((unhide HG).kept hK (fun e => by have e : g2 = cb := e; omega)); replace HS := hide ((unhide HS).kept hK (fun e => by have e : gs = cb := e; omega)); replace HK := hide ((unhide HK).trans hK); clear hS hC hK x2 xz xf; have x2 := (unhide HS).cell (i := 2) rfl; have xz := (unhide HS).cell (i := 4) rfl; have xf := (unhide HS).frozen 4))
  clear x2 xz xf
  obtain ⟨hg, ehg⟩ : ∃ z, z = he + gx := ⟨_, rfl⟩
  have qhg : IntKind.i64.wrap (he + gx) = hg := by rw [← ehg, IntKind.wrap_i64]; omega
  have phg : he + gx = hg := ehg.symm
  have bhg : 0 ≤ hg ∧ hg ≤ 20 := by omega
  have Ehg := hide ehg
  clear ehg
  rw [qhg]
  clear qhg phg
  obtain ⟨V6, eV6⟩ : ∃ V, V = U4.setCell ⟨gs, 4, none⟩ (.int .i64 hg) := ⟨_, rfl⟩
  have hkp := kept1 U4 gs 4 (.int .i64 hg)
  rw [← eV6] at hkp
  replace HS : Hid (OwnV V6 gs [.int .i64 q, .int .i64 ld, .int .i64 he, .int .i64 a, .int .i64 hg, .int .i64 lm, .int .i64 rs]) := by show OwnV _ _ _; rw [eV6]; exact (unhide HS).set 4 _ (by simp)
  replace HG := hide ((unhide HG).kept hkp (fun e => by have e : g2 = gs := e; omega))
  replace HC := hide ((unhide HC).kept hkp (fun b hb => by have hb : b = gs := hb; omega))
  replace HK := hide ((unhide HK).own hkp (fun b hb => by have hb : b = gs := hb; omega))
  rw [← eV6]
  clear eV6 hkp
  go_wp2_with fail
  refine (unhide QB i7 (lcg (lcg (lcg (lcg (lcg (lcg (lcg h0))))))) _ (unhide HC) 30 (by omega) (by omega)).mono ?_
  rintro e W7 ⟨kk, i8, rfl, hkk0, hkk1, hS, hC, hK⟩
  have S8 := hide hS
  clear hS
  replace HC := hide hC
  replace HG := hide ((unhide HG).kept hK (fun e => by have e : g2 = cb := e; omega))
  replace HS := hide ((unhide HS).kept hK (fun e => by have e : gs = cb := e; omega))
  replace HK := hide ((unhide HK).trans hK)
  clear hC hK
  by_cases e0 : kk = 0
  case pos =>
    subst e0
    clear hkk0 hkk1
    go_upto_region 6 with (fail)
    have hA := Below.alloc1 W7 (.cells #[.int .i64 (-1), .int .i64 4] 3)
    have HI := hide (ownV_alloc W7 #[.int .i64 (-1), .int .i64 4] 3)
    have hne : ¬ W7.heap.size = cb := by have := (unhide HC).lt; omega
    replace HG := hide ((unhide HG).step hA)
    replace HS := hide ((unhide HS).step hA)
    replace HC := hide ((unhide HC).below hA)
    replace HK := hide ((unhide HK).trans (kept_of_below hA))
    clear hA
    go_wp2_with fail
    refine (l1PickInt_x cb n i8 v (lcg (lcg (lcg (lcg (lcg (lcg (lcg (lcg h0)))))))) _ 2 [-1, 4] _ (unhide HC) (unhide HI) hne rfl (by omega) (by omega)).mono ?_
    rintro e W7p ⟨j, i9, rfl, hj, hS, hC, hK⟩
    have S9 := hide hS
    clear HI hne hS
    obtain ⟨zj, ezj⟩ : ∃ z, z = ([-1, 4] : List Int).getD j 0 := ⟨_, rfl⟩
    rw [← ezj]
    have HZ := hide ezj
    clear ezj
    replace HC := hide hC
    replace HG := hide ((unhide HG).kept hK (fun e => by have e : g2 = cb := e; omega))
    replace HS := hide ((unhide HS).kept hK (fun e => by have e : gs = cb := e; omega))
    replace HK := hide ((unhide HK).trans hK)
    clear hC hK
    have s0 := (unhide HS).cell (i := 0) rfl
    have sf := (unhide HS).frozen 0
    obtain ⟨Y0, eWn⟩ : ∃ Wq, Wq = W7p.setCell ⟨gs, 0, none⟩ (.int .i64 (zj)) := ⟨_, rfl⟩
    have hkp := kept1 W7p gs 0 (.int .i64 (zj))
    rw [← eWn] at hkp
    replace HS : Hid (OwnV Y0 gs [.int .i64 zj, .int .i64 ld, .int .i64 he, .int .i64 a, .int .i64 hg, .int .i64 lm, .int .i64 rs]) := by show OwnV _ _ _; rw [eWn]; exact (unhide HS).set 0 _ (by simp)
    replace HG := hide ((unhide HG).kept hkp (fun e => by have e : g2 = gs := e; omega))
    replace HC := hide ((unhide HC).kept hkp (fun b hb => by have hb : b = gs := hb; omega))
    replace HK := hide ((unhide HK).own hkp (fun b hb => by have hb : b = gs := hb; omega))
    go_upto_region 15 with (fail)
    rw [← eWn]
    clear eWn hkp s0 sf
    have s0 := (unhide HS).cell (i := 0) rfl
    have s1 := (unhide HS).cell (i := 1) rfl
    have s2 := (unhide HS).cell (i := 2) rfl
    have s3 := (unhide HS).cell (i := 3) rfl
    have s4 := (unhide HS).cell (i := 4) rfl
    have s5 := (unhide HS).cell (i := 5) rfl
    have s6 := (unhide HS).cell (i := 6) rfl
    have c0 := (unhide HG).cell (i := 0) rfl
    have f0 := (unhide HG).frozen 0
    have c1 := (unhide HG).cell (i := 1) rfl
    have f1 := (unhide HG).frozen 1
    have c2 := (unhide HG).cell (i := 2) rfl
    have f2 := (unhide HG).frozen 2
    have c3 := (unhide HG).cell (i := 3) rfl
    have f3 := (unhide HG).frozen 3
    have c4 := (unhide HG).cell (i := 4) rfl
    have f4 := (unhide HG).frozen 4
    have c5 := (unhide HG).cell (i := 5) rfl
    have f5 := (unhide HG).frozen 5
    have c6 := (unhide HG).cell (i := 6) rfl
    have f6 := (unhide HG).frozen 6
    obtain ⟨V9, eV9⟩ : ∃ V, V = ((((((Y0.setCell ⟨g2, 0, none⟩ (.int .i64 zj)).setCell ⟨g2, 1, none⟩ (.int .i64 ld)).setCell ⟨g2, 2, none⟩ (.int .i64 he)).setCell ⟨g2, 3, none⟩ (.int .i64 a)).setCell ⟨g2, 4, none⟩ (.int .i64 hg)).setCell ⟨g2, 5, none⟩ (.int .i64 lm)).setCell ⟨g2, 6, none⟩ (.int .i64 rs) := ⟨_, rfl⟩
    have HG9 : Hid (OwnV V9 g2 [.int .i64 zj, .int .i64 ld, .int .i64 he, .int .i64 a, .int .i64 hg, .int .i64 lm, .int .i64 rs]) := by show OwnV _ _ _; rw [eV9]; exact own7 (unhide HG) (zj) (ld) (he) (a) (hg) (lm) (rs)
    have hkp : Kept (fun b => b = g2) Y0 V9 := by rw [eV9]; exact kept7 _ _ (zj) (ld) (he) (a) (hg) (lm) (rs)
    have HC9 := hide ((unhide HC).kept hkp (fun b hb => by have hb : b = g2 := hb; omega))
    have HK9 := hide ((unhide HK).own hkp (fun b hb => by have hb : b = g2 := hb; omega))
    clear hkp
    go_wp2
    rw [← eV9]
    have k0 := (unhide HG9).cell (i := 0) rfl
    have k1 := (unhide HG9).cell (i := 1) rfl
    have k2 := (unhide HG9).cell (i := 2) rfl
    have k3 := (unhide HG9).cell (i := 3) rfl
    have k4 := (unhide HG9).cell (i := 4) rfl
    have k5 := (unhide HG9).cell (i := 5) rfl
    have k6 := (unhide HG9).cell (i := 6) rfl
    refine bodyPost_ret (v := vHoist (zj) (ld) (he) (a) (hg) (lm) (rs)) (by simp [results, Try.results51, go_sem, vHoist, k0, k1, k2, k3, k4, k5, k6]) rfl ⟨⟨zj, ld, he, a, hg, lm, rs⟩, _, _, rfl, drH_b (unhide S1) (unhide S2) (unhide S3) (unhide S4) (unhide S5) (unhide S6) (unhide S7) (unhide S8) (unhide S9) (fun y hy => by rw [hoF, if_pos rfl]; rw [pkI_at rfl hy, ← unhide HZ]; obtain rfl : hg = he + gx := unhide Ehg; obtain rfl : lm = 10 + lx := unhide Elm; obtain rfl : he = a + hx := unhide Ehe; rfl), unhide HC9, unhide HK9⟩
  have d0 : (kk == 0) = false := by simp [e0]
  by_cases e1 : kk = 1
  case pos =>
    subst e1
    clear hkk0 hkk1
    go_upto_region 8 with (fail)
    obtain ⟨hh, eHH⟩ : ∃ z, z = hg + 1 := ⟨_, rfl⟩
    have qHH : IntKind.i64.wrap (hg + 1) = hh := by rw [← eHH, IntKind.wrap_i64]; omega
    have pHH : hg + 1 = hh := eHH.symm
    have EHH := hide eHH
    clear eHH
    have s4 := (unhide HS).cell (i := 4) rfl
    have s0 := (unhide HS).cell (i := 2) rfl
    have sf := (unhide HS).frozen 2
    obtain ⟨Y0, eWn⟩ : ∃ Wq, Wq = W7.setCell ⟨gs, 2, none⟩ (.int .i64 (hh)) := ⟨_, rfl⟩
    have hkp := kept1 W7 gs 2 (.int .i64 (hh))
    rw [← eWn] at hkp
    replace HS : Hid (OwnV Y0 gs [.int .i64 q, .int .i64 ld, .int .i64 hh, .int .i64 a, .int .i64 hg, .int .i64 lm, .int .i64 rs]) := by show OwnV _ _ _; rw [eWn]; exact (unhide HS).set 2 _ (by simp)
    replace HG := hide ((unhide HG).kept hkp (fun e => by have e : g2 = gs := e; omega))
    replace HC := hide ((unhide HC).kept hkp (fun b hb => by have hb : b = gs := hb; omega))
    replace HK := hide ((unhide HK).own hkp (fun b hb => by have hb : b = gs := hb; omega))
    go_upto_region 15 with (fail)
    rw [← eWn]
    clear eWn hkp s0 sf
    have s0 := (unhide HS).cell (i := 0) rfl
    have s1 := (unhide HS).cell (i := 1) rfl
    have s2 := (unhide HS).cell (i := 2) rfl
    have s3 := (unhide HS).cell (i := 3) rfl
    have s4 := (unhide HS).cell (i := 4) rfl
    have s5 := (unhide HS).cell (i := 5) rfl
    have s6 := (unhide HS).cell (i := 6) rfl
    have c0 := (unhide HG).cell (i := 0) rfl
    have f0 := (unhide HG).frozen 0
    have c1 := (unhide HG).cell (i := 1) rfl
    have f1 := (unhide HG).frozen 1
    have c2 := (unhide HG).cell (i := 2) rfl
    have f2 := (unhide HG).frozen 2
    have c3 := (unhide HG).cell (i := 3) rfl
    have f3 := (unhide HG).frozen 3
    have c4 := (unhide HG).cell (i := 4) rfl
    have f4 := (unhide HG).frozen 4
    have c5 := (unhide HG).cell (i := 5) rfl
    have f5 := (unhide HG).frozen 5
    have c6 := (unhide HG).cell (i := 6) rfl
    have f6 := (unhide HG).frozen 6
    obtain ⟨V9, eV9⟩ : ∃ V, V = ((((((Y0.setCell ⟨g2, 0, none⟩ (.int .i64 q)).setCell ⟨g2, 1, none⟩ (.int .i64 ld)).setCell ⟨g2, 2, none⟩ (.int .i64 hh)).setCell ⟨g2, 3, none⟩ (.int .i64 a)).setCell ⟨g2, 4, none⟩ (.int .i64 hg)).setCell ⟨g2, 5, none⟩ (.int .i64 lm)).setCell ⟨g2, 6, none⟩ (.int .i64 rs) := ⟨_, rfl⟩
    have HG9 : Hid (OwnV V9 g2 [.int .i64 q, .int .i64 ld, .int .i64 hh, .int .i64 a, .int .i64 hg, .int .i64 lm, .int .i64 rs]) := by show OwnV _ _ _; rw [eV9]; exact own7 (unhide HG) (q) (ld) (hh) (a) (hg) (lm) (rs)
    have hkp : Kept (fun b => b = g2) Y0 V9 := by rw [eV9]; exact kept7 _ _ (q) (ld) (hh) (a) (hg) (lm) (rs)
    have HC9 := hide ((unhide HC).kept hkp (fun b hb => by have hb : b = g2 := hb; omega))
    have HK9 := hide ((unhide HK).own hkp (fun b hb => by have hb : b = g2 := hb; omega))
    clear hkp
    go_wp2
    rw [← eV9]
    have k0 := (unhide HG9).cell (i := 0) rfl
    have k1 := (unhide HG9).cell (i := 1) rfl
    have k2 := (unhide HG9).cell (i := 2) rfl
    have k3 := (unhide HG9).cell (i := 3) rfl
    have k4 := (unhide HG9).cell (i := 4) rfl
    have k5 := (unhide HG9).cell (i := 5) rfl
    have k6 := (unhide HG9).cell (i := 6) rfl
    refine bodyPost_ret (v := vHoist (q) (ld) (hh) (a) (hg) (lm) (rs)) (by simp [results, Try.results51, go_sem, vHoist, k0, k1, k2, k3, k4, k5, k6]) rfl ⟨⟨q, ld, hh, a, hg, lm, rs⟩, _, _, rfl, drH_a (unhide S1) (unhide S2) (unhide S3) (unhide S4) (unhide S5) (unhide S6) (unhide S7) (unhide S8) (fun y => by rw [hoF, if_neg e0, if_pos rfl]; obtain rfl : hh = hg + 1 := unhide EHH; obtain rfl : hg = he + gx := unhide Ehg; obtain rfl : lm = 10 + lx := unhide Elm; obtain rfl : he = a + hx := unhide Ehe; rfl), unhide HC9, unhide HK9⟩
  have d1 : (kk == 1) = false := by simp [e1]
  by_cases e2 : kk = 2
  case pos =>
    subst e2
    clear hkk0 hkk1
    go_upto_region 10 with (fail)
    have hA := Below.alloc1 W7 (.cells #[.int .i64 (-1), .int .i64 1000000, .int .i64 1000001] 3)
    have HI := hide (ownV_alloc W7 #[.int .i64 (-1), .int .i64 1000000, .int .i64 1000001] 3)
    have hne : ¬ W7.heap.size = cb := by have := (unhide HC).lt; omega
    replace HG := hide ((unhide HG).step hA)
    replace HS := hide ((unhide HS).step hA)
    replace HC := hide ((unhide HC).below hA)
    replace HK := hide ((unhide HK).trans (kept_of_below hA))
    clear hA
    go_wp2_with fail
    refine (l1PickInt_x cb n i8 v (lcg (lcg (lcg (lcg (lcg (lcg (lcg (lcg h0)))))))) _ 3 [-1, 1000000, 1000001] _ (unhide HC) (unhide HI) hne rfl (by omega) (by omega)).mono ?_
    rintro e W7p ⟨j, i9, rfl, hj, hS, hC, hK⟩
    have S9 := hide hS
    clear HI hne hS
    obtain ⟨zj, ezj⟩ : ∃ z, z = ([-1, 1000000, 1000001] : List Int).getD j 0 := ⟨_, rfl⟩
    rw [← ezj]
    have HZ := hide ezj
    clear ezj
    replace HC := hide hC
    replace HG := hide ((unhide HG).kept hK (fun e => by have e : g2 = cb := e; omega))
    replace HS := hide ((unhide HS).kept hK (fun e => by have e : gs = cb := e; omega))
    replace HK := hide ((unhide HK).trans hK)
    clear hC hK
    have s0 := (unhide HS).cell (i := 1) rfl
    have sf := (unhide HS).frozen 1
    obtain ⟨Y0, eWn⟩ : ∃ Wq, Wq = W7p.setCell ⟨gs, 1, none⟩ (.int .i64 (zj)) := ⟨_, rfl⟩
    have hkp := kept1 W7p gs 1 (.int .i64 (zj))
    rw [← eWn] at hkp
    replace HS : Hid (OwnV Y0 gs [.int .i64 q, .int .i64 zj, .int .i64 he, .int .i64 a, .int .i64 hg, .int .i64 lm, .int .i64 rs]) := by show OwnV _ _ _; rw [eWn]; exact (unhide HS).set 1 _ (by simp)
    replace HG := hide ((unhide HG).kept hkp (fun e => by have e : g2 = gs := e; omega))
    replace HC := hide ((unhide HC).kept hkp (fun b hb => by have hb : b = gs := hb; omega))
    replace HK := hide ((unhide HK).own hkp (fun b hb => by have hb : b = gs := hb; omega))
    go_upto_region 15 with (fail)
    rw [← eWn]
    clear eWn hkp s0 sf
    have s0 := (unhide HS).cell (i := 0) rfl
    have s1 := (unhide HS).cell (i := 1) rfl
    have s2 := (unhide HS).cell (i := 2) rfl
    have s3 := (unhide HS).cell (i := 3) rfl
    have s4 := (unhide HS).cell (i := 4) rfl
    have s5 := (unhide HS).cell (i := 5) rfl
    have s6 := (unhide HS).cell (i := 6) rfl
    have c0 := (unhide HG).cell (i := 0) rfl
    have f0 := (unhide HG).frozen 0
    have c1 := (unhide HG).cell (i := 1) rfl
    have f1 := (unhide HG).frozen 1
    have c2 := (unhide HG).cell (i := 2) rfl
    have f2 := (unhide HG).frozen 2
    have c3 := (unhide HG).cell (i := 3) rfl
    have f3 := (unhide HG).frozen 3
    have c4 := (unhide HG).cell (i := 4) rfl
    have f4 := (unhide HG).frozen 4
    have c5 := (unhide HG).cell (i := 5) rfl
    have f5 := (unhide HG).frozen 5
    have c6 := (unhide HG).cell (i := 6) rfl
    have f6 := (unhide HG).frozen 6
    obtain ⟨V9, eV9⟩ : ∃ V, V = ((((((Y0.setCell ⟨g2, 0, none⟩ (.int .i64 q)).setCell ⟨g2, 1, none⟩ (.int .i64 zj)).setCell ⟨g2, 2, none⟩ (.int .i64 he)).setCell ⟨g2, 3, none⟩ (.int .i64 a)).setCell ⟨g2, 4, none⟩ (.int .i64 hg)).setCell ⟨g2, 5, none⟩ (.int .i64 lm)).setCell ⟨g2, 6, none⟩ (.int .i64 rs) := ⟨_, rfl⟩
    have HG9 : Hid (OwnV V9 g2 [.int .i64 q, .int .i64 zj, .int .i64 he, .int .i64 a, .int .i64 hg, .int .i64 lm, .int .i64 rs]) := by show OwnV _ _ _; rw [eV9]; exact own7 (unhide HG) (q) (zj) (he) (a) (hg) (lm) (rs)
    have hkp : Kept (fun b => b = g2) Y0 V9 := by rw [eV9]; exact kept7 _ _ (q) (zj) (he) (a) (hg) (lm) (rs)
    have HC9 := hide ((unhide HC).kept hkp (fun b hb => by have hb : b = g2 := hb; omega))
    have HK9 := hide ((unhide HK).own hkp (fun b hb => by have hb : b = g2 := hb; omega))
    clear hkp
    go_wp2
    rw [← eV9]
    have k0 := (unhide HG9).cell (i := 0) rfl
    have k1 := (unhide HG9).cell (i := 1) rfl
    have k2 := (unhide HG9).cell (i := 2) rfl
    have k3 := (unhide HG9).cell (i := 3) rfl
    have k4 := (unhide HG9).cell (i := 4) rfl
    have k5 := (unhide HG9).cell (i := 5) rfl
    have k6 := (unhide HG9).cell (i := 6) rfl
    refine bodyPost_ret (v := vHoist (q) (zj) (he) (a) (hg) (lm) (rs)) (by simp [results, Try.results51, go_sem, vHoist, k0, k1, k2, k3, k4, k5, k6]) rfl ⟨⟨q, zj, he, a, hg, lm, rs⟩, _, _, rfl, drH_b (unhide S1) (unhide S2) (unhide S3) (unhide S4) (unhide S5) (unhide S6) (unhide S7) (unhide S8) (unhide S9) (fun y hy => by rw [hoF, if_neg e0, if_neg e1, if_pos rfl]; rw [pkI_at rfl hy, ← unhide HZ]; obtain rfl : hg = he + gx := unhide Ehg; obtain rfl : lm = 10 + lx := unhide Elm; obtain rfl : he = a + hx := unhide Ehe; rfl), unhide HC9, unhide HK9⟩
  have d2 : (kk == 2) = false := by simp [e2]
  by_cases e3 : kk = 3
  case pos =>
    subst e3
    clear hkk0 hkk1
    go_upto_region 12 with (fail)
    have s0 := (unhide HS).cell (i := 6) rfl
    have sf := (unhide HS).frozen 6
    obtain ⟨Y0, eWn⟩ : ∃ Wq, Wq = W7.setCell ⟨gs, 6, none⟩ (.int .i64 (2)) := ⟨_, rfl⟩
    have hkp := kept1 W7 gs 6 (.int .i64 (2))
    rw [← eWn] at hkp
    replace HS : Hid (OwnV Y0 gs [.int .i64 q, .int .i64 ld, .int .i64 he, .int .i64 a, .int .i64 hg, .int .i64 lm, .int .i64 2]) := by show OwnV _ _ _; rw [eWn]; exact (unhide HS).set 6 _ (by simp)
    replace HG := hide ((unhide HG).kept hkp (fun e => by have e : g2 = gs := e; omega))
    replace HC := hide ((unhide HC).kept hkp (fun b hb => by have hb : b = gs := hb; omega))
    replace HK := hide ((unhide HK).own hkp (fun b hb => by have hb : b = gs := hb; omega))
    go_upto_region 15 with (fail)
    rw [← eWn]
    clear eWn hkp s0 sf
    have s0 := (unhide HS).cell (i := 0) rfl
    have s1 := (unhide HS).cell (i := 1) rfl
    have s2 := (unhide HS).cell (i := 2) rfl
    have s3 := (unhide HS).cell (i := 3) rfl
    have s4 := (unhide HS).cell (i := 4) rfl
    have s5 := (unhide HS).cell (i := 5) rfl
    have s6 := (unhide HS).cell (i := 6) rfl
    have c0 := (unhide HG).cell (i := 0) rfl
    have f0 := (unhide HG).frozen 0
    have c1 := (unhide HG).cell (i := 1) rfl
    have f1 := (unhide HG).frozen 1
    have c2 := (unhide HG).cell (i := 2) rfl
    have f2 := (unhide HG).frozen 2
    have c3 := (unhide HG).cell (i := 3) rfl
    have f3 := (unhide HG).frozen 3
    have c4 := (unhide HG).cell (i := 4) rfl
    have f4 := (unhide HG).frozen 4
    have c5 := (unhide HG).cell (i := 5) rfl
    have f5 := (unhide HG).frozen 5
    have c6 := (unhide HG).cell (i := 6) rfl
    have f6 := (unhide HG).frozen 6
    obtain ⟨V9, eV9⟩ : ∃ V, V = ((((((Y0.setCell ⟨g2, 0, none⟩ (.int .i64 q)).setCell ⟨g2, 1, none⟩ (.int .i64 ld)).setCell ⟨g2, 2, none⟩ (.int .i64 he)).setCell ⟨g2, 3, none⟩ (.int .i64 a)).setCell ⟨g2, 4, none⟩ (.int .i64 hg)).setCell ⟨g2, 5, none⟩ (.int .i64 lm)).setCell ⟨g2, 6, none⟩ (.int .i64 2) := ⟨_, rfl⟩
    have HG9 : Hid (OwnV V9 g2 [.int .i64 q, .int .i64 ld, .int .i64 he, .int .i64 a, .int .i64 hg, .int .i64 lm, .int .i64 2]) := by show OwnV _ _ _; rw [eV9]; exact own7 (unhide HG) (q) (ld) (he) (a) (hg) (lm) (2)
    have hkp : Kept (fun b => b = g2) Y0 V9 := by rw [eV9]; exact kept7 _ _ (q) (ld) (he) (a) (hg) (lm) (2)
    have HC9 := hide ((unhide HC).kept hkp (fun b hb => by have hb : b = g2 := hb; omega))
    have HK9 := hide ((unhide HK).own hkp (fun b hb => by have hb : b = g2 := hb; omega))
    clear hkp
    go_wp2
    rw [← eV9]
    have k0 := (unhide HG9).cell (i := 0) rfl
    have k1 := (unhide HG9).cell (i := 1) rfl
    have k2 := (unhide HG9).cell (i := 2) rfl
    have k3 := (unhide HG9).cell (i := 3) rfl
    have k4 := (unhide HG9).cell (i := 4) rfl
    have k5 := (unhide HG9).cell (i := 5) rfl
    have k6 := (unhide HG9).cell (i := 6) rfl
    refine bodyPost_ret (v := vHoist (q) (ld) (he) (a) (hg) (lm) (2)) (by simp [results, Try.results51, go_sem, vHoist, k0, k1, k2, k3, k4, k5, k6]) rfl ⟨⟨q, ld, he, a, hg, lm, 2⟩, _, _, rfl, drH_a (unhide S1) (unhide S2) (unhide S3) (unhide S4) (unhide S5) (unhide S6) (unhide S7) (unhide S8) (fun y => by rw [hoF, if_neg e0, if_neg e1, if_neg e2, if_pos rfl]; obtain rfl : hg = he + gx := unhide Ehg; obtain rfl : lm = 10 + lx := unhide Elm; obtain rfl : he = a + hx := unhide Ehe; rfl), unhide HC9, unhide HK9⟩
  have d3 : (kk == 3) = false := by simp [e3]
  by_cases e4 : kk = 4
  case pos =>
    subst e4
    clear hkk0 hkk1
    go_upto_region 14 with (fail)
    have hA := Below.alloc1 W7 (.cells #[.int .i64 10000, .int .i64 10001] 3)
    have HI := hide (ownV_alloc W7 #[.int .i64 10000, .int .i64 10001] 3)
    have hne : ¬ W7.heap.size = cb := by have := (unhide HC).lt; omega
    replace HG := hide ((unhide HG).step hA)
    replace HS := hide ((unhide HS).step hA)
    replace HC := hide ((unhide HC).below hA)
    replace HK := hide ((unhide HK).trans (kept_of_below hA))
    clear hA
    go_wp2_with fail
    refine (l1PickInt_x cb n i8 v (lcg (lcg (lcg (lcg (lcg (lcg (lcg (lcg h0)))))))) _ 2 [10000, 10001] _ (unhide HC) (unhide HI) hne rfl (by omega) (by omega)).mono ?_
    rintro e W7p ⟨j, i9, rfl, hj, hS, hC, hK⟩
    have S9 := hide hS
    clear HI hne hS
    obtain ⟨zj, ezj⟩ : ∃ z, z = ([10000, 10001] : List Int).getD j 0 := ⟨_, rfl⟩
    rw [← ezj]
    have HZ := hide ezj
    clear ezj
    replace HC := hide hC
    replace HG := hide ((unhide HG).kept hK (fun e => by have e : g2 = cb := e; omega))
    replace HS := hide ((unhide HS).kept hK (fun e => by have e : gs = cb := e; omega))
    replace HK := hide ((unhide HK).trans hK)
    clear hC hK
    have s0 := (unhide HS).cell (i := 4) rfl
    have sf := (unhide HS).frozen 4
    obtain ⟨Y0, eWn⟩ : ∃ Wq, Wq = W7p.setCell ⟨gs, 4, none⟩ (.int .i64 (zj)) := ⟨_, rfl⟩
    have hkp := kept1 W7p gs 4 (.int .i64 (zj))
    rw [← eWn] at hkp
    replace HS : Hid (OwnV Y0 gs [.int .i64 q, .int .i64 ld, .int .i64 he, .int .i64 a, .int .i64 zj, .int .i64 lm, .int .i64 rs]) := by show OwnV _ _ _; rw [eWn]; exact (unhide HS).set 4 _ (by simp)
    replace HG := hide ((unhide HG).kept hkp (fun e => by have e : g2 = gs := e; omega))
    replace HC := hide ((unhide HC).kept hkp (fun b hb => by have hb : b = gs := hb; omega))
    replace HK := hide ((unhide HK).own hkp (fun b hb => by have hb : b = gs := hb; omega))
    go_upto_region 15 with (fail)
    rw [← eWn]
    clear eWn hkp s0 sf
    have s0 := (unhide HS).cell (i := 0) rfl
    have s1 := (unhide HS).cell (i := 1) rfl
    have s2 := (unhide HS).cell (i := 2) rfl
    have s3 := (unhide HS).cell (i := 3) rfl
    have s4 := (unhide HS).cell (i := 4) rfl
    have s5 := (unhide HS).cell (i := 5) rfl
    have s6 := (unhide HS).cell (i := 6) rfl
    have c0 := (unhide HG).cell (i := 0) rfl
    have f0 := (unhide HG).frozen 0
    have c1 := (unhide HG).cell (i := 1) rfl
    have f1 := (unhide HG).frozen 1
    have c2 := (unhide HG).cell (i := 2) rfl
    have f2 := (unhide HG).frozen 2
    have c3 := (unhide HG).cell (i := 3) rfl
    have f3 := (unhide HG).frozen 3
    have c4 := (unhide HG).cell (i := 4) rfl
    have f4 := (unhide HG).frozen 4
    have c5 := (unhide HG).cell (i := 5) rfl
    have f5 := (unhide HG).frozen 5
    have c6 := (unhide HG).cell (i := 6) rfl
    have f6 := (unhide HG).frozen 6
    obtain ⟨V9, eV9⟩ : ∃ V, V = ((((((Y0.setCell ⟨g2, 0, none⟩ (.int .i64 q)).setCell ⟨g2, 1, none⟩ (.int .i64 ld)).setCell ⟨g2, 2, none⟩ (.int .i64 he)).setCell ⟨g2, 3, none⟩ (.int .i64 a)).setCell ⟨g2, 4, none⟩ (.int .i64 zj)).setCell ⟨g2, 5, none⟩ (.int .i64 lm)).setCell ⟨g2, 6, none⟩ (.int .i64 rs) := ⟨_, rfl⟩
    have HG9 : Hid (OwnV V9 g2 [.int .i64 q, .int .i64 ld, .int .i64 he, .int .i64 a, .int .i64 zj, .int .i64 lm, .int .i64 rs]) := by show OwnV _ _ _; rw [eV9]; exact own7 (unhide HG) (q) (ld) (he) (a) (zj) (lm) (rs)
    have hkp : Kept (fun b => b = g2) Y0 V9 := by rw [eV9]; exact kept7 _ _ (q) (ld) (he) (a) (zj) (lm) (rs)
    have HC9 := hide ((unhide HC).kept hkp (fun b hb => by have hb : b = g2 := hb; omega))
    have HK9 := hide ((unhide HK).own hkp (fun b hb => by have hb : b = g2 := hb; omega))
    clear hkp
    go_wp2
    rw [← eV9]
    have k0 := (unhide HG9).cell (i := 0) rfl
    have k1 := (unhide HG9).cell (i := 1) rfl
    have k2 := (unhide HG9).cell (i := 2) rfl
    have k3 := (unhide HG9).cell (i := 3) rfl
    have k4 := (unhide HG9).cell (i := 4) rfl
    have k5 := (unhide HG9).cell (i := 5) rfl
    have k6 := (unhide HG9).cell (i := 6) rfl
    refine bodyPost_ret (v := vHoist (q) (ld) (he) (a) (zj) (lm) (rs)) (by simp [results, Try.results51, go_sem, vHoist, k0, k1, k2, k3, k4, k5, k6]) rfl ⟨⟨q, ld, he, a, zj, lm, rs⟩, _, _, rfl, drH_b (unhide S1) (unhide S2) (unhide S3) (unhide S4) (unhide S5) (unhide S6) (unhide S7) (unhide S8) (unhide S9) (fun y hy => by rw [hoF, if_neg e0, if_neg e1, if_neg e2, if_neg e3, if_pos rfl]; rw [pkI_at rfl hy, ← unhide HZ]; obtain rfl : hg = he + gx := unhide Ehg; obtain rfl : lm = 10 + lx := unhide Elm; obtain rfl : he = a + hx := unhide Ehe; rfl), unhide HC9, unhide HK9⟩
  have d4 : (kk == 4) = false := by simp [e4]
  have E0 := hide e0
  have E1 := hide e1
  have E2 := hide e2
  have E3 := hide e3
  have E4 := hide e4
  clear e0 e1 e2 e3 e4
  go_upto_region 15 with (fail)
  have s0 := (unhide HS).cell (i := 0) rfl
  have s1 := (unhide HS).cell (i := 1) rfl
  have s2 := (unhide HS).cell (i := 2) rfl
  have s3 := (unhide HS).cell (i := 3) rfl
  have s4 := (unhide HS).cell (i := 4) rfl
  have s5 := (unhide HS).cell (i := 5) rfl
  have s6 := (unhide HS).cell (i := 6) rfl
  have c0 := (unhide HG).cell (i := 0) rfl
  have f0 := (unhide HG).frozen 0
  have c1 := (unhide HG).cell (i := 1) rfl
  have f1 := (unhide HG).frozen 1
  have c2 := (unhide HG).cell (i := 2) rfl
  have f2 := (unhide HG).frozen 2
  have c3 := (unhide HG).cell (i := 3) rfl
  have f3 := (unhide HG).frozen 3
  have c4 := (unhide HG).cell (i := 4) rfl
  have f4 := (unhide HG).frozen 4
  have c5 := (unhide HG).cell (i := 5) rfl
  have f5 := (unhide HG).frozen 5
  have c6 := (unhide HG).cell (i := 6) rfl
  have f6 := (unhide HG).frozen 6
  obtain ⟨V9, eV9⟩ : ∃ V, V = ((((((W7.setCell ⟨g2, 0, none⟩ (.int .i64 q)).setCell ⟨g2, 1, none⟩ (.int .i64 ld)).setCell ⟨g2, 2, none⟩ (.int .i64 he)).setCell ⟨g2, 3, none⟩ (.int .i64 a)).setCell ⟨g2, 4, none⟩ (.int .i64 hg)).setCell ⟨g2, 5, none⟩ (.int .i64 lm)).setCell ⟨g2, 6, none⟩ (.int .i64 rs) := ⟨_, rfl⟩
  have HG9 : Hid (OwnV V9 g2 [.int .i64 q, .int .i64 ld, .int .i64 he, .int .i64 a, .int .i64 hg, .int .i64 lm, .int .i64 rs]) := by show OwnV _ _ _; rw [eV9]; exact own7 (unhide HG) (q) (ld) (he) (a) (hg) (lm) (rs)
  have hkp : Kept (fun b => b = g2) W7 V9 := by rw [eV9]; exact kept7 _ _ (q) (ld) (he) (a) (hg) (lm) (rs)
  have HC9 := hide ((unhide HC).kept hkp (fun b hb => by have hb : b = g2 := hb; omega))
  have HK9 := hide ((unhide HK).own hkp (fun b hb => by have hb : b = g2 := hb; omega))
  clear hkp
  go_wp2
  rw [← eV9]
  have k0 := (unhide HG9).cell (i := 0) rfl
  have k1 := (unhide HG9).cell (i := 1) rfl
  have k2 := (unhide HG9).cell (i := 2) rfl
  have k3 := (unhide HG9).cell (i := 3) rfl
  have k4 := (unhide HG9).cell (i := 4) rfl
  have k5 := (unhide HG9).cell (i := 5) rfl
  have k6 := (unhide HG9).cell (i := 6) rfl
  refine bodyPost_ret (v := vHoist (q) (ld) (he) (a) (hg) (lm) (rs)) (by simp [results, Try.results51, go_sem, vHoist, k0, k1, k2, k3, k4, k5, k6]) rfl ⟨⟨q, ld, he, a, hg, lm, rs⟩, _, _, rfl, drH_a (unhide S1) (unhide S2) (unhide S3) (unhide S4) (unhide S5) (unhide S6) (unhide S7) (unhide S8) (fun y => by rw [hoF, if_neg (unhide E0), if_neg (unhide E1), if_neg (unhide E2), if_neg (unhide E3), if_neg (unhide E4)]; obtain rfl : hg = he + gx := unhide Ehg; obtain rfl : lm = 10 + lx := unhide Elm; obtain rfl : he = a + hx := unhide Ehe; rfl), unhide HC9, unhide HK9⟩

set_option maxRecDepth 100000 in
set_option maxHeartbeats 8000000 in
theorem l20DrawSignal_any (cb n : Nat) (v : Value) (w : World) (h : Cur w cb v n) (hn : n ≤ 1048576) :
    Calls Try.prog 53 #[.pointer (some ⟨cb, 0, none⟩)] w fun e w' => ∃ k m, e = .returned (vSignal k m) ∧ Cur w' cb v n ∧ KC cb w w' := by
  have QB := hide fun W (hW : Cur W cb v n) k h0 h1 => l1BelowV_any cb n v k W hW hn h0 h1
  have hcb := h.lt
  have hA := Below.alloc1 w (.cells #[.int .i64 0, .int .i64 0] 44)
  have HG := hide (ownV_alloc w #[.int .i64 0, .int .i64 0] 44)
  obtain ⟨V0, eV0⟩ : ∃ V, V = w.alloc (.cells #[.int .i64 0, .int .i64 0] 44) := ⟨_, rfl⟩
  rw [← eV0] at hA HG
  have HC := hide (h.below hA)
  have HK := hide (kept_of_below (T := fun b => b = cb) hA)
  obtain ⟨g2, eg2⟩ : ∃ g, g = w.heap.size := ⟨_, rfl⟩
  rw [← eg2] at HG
  have hg2 : cb < g2 := by omega
  have hg2w : w.heap.size ≤ g2 := by omega
  clear h hA
  go_enter Try.func53, Try.ntmps53
  go_wp2_with fail
  rw [← eV0, ← eg2]
  clear eV0 eg2
  refine (unhide QB _ (unhide HC) 7 (by omega) (by omega)).mono ?_
  rintro e W1 ⟨a, rfl, ha0, ha1, hC, hK⟩
  replace HC := hide hC
  replace HG := hide ((unhide HG).kept hK (fun e => by have e : g2 = cb := e; omega))
  replace HK := hide ((unhide HK).trans hK)
  clear hC hK
  obtain ⟨k, ek⟩ : ∃ z, z = 1 + a := ⟨_, rfl⟩
  have qk : IntKind.i64.wrap (1 + a) = k := by rw [← ek, IntKind.wrap_i64]; omega
  have pk : 1 + a = k := ek.symm
  have bk : 0 ≤ k ∧ k ≤ 10 := by omega
  have Ek := hide ek
  clear ek
  go_wp2_with fail
  refine (unhide QB _ (unhide HC) 30 (by omega) (by omega)).mono ?_
  rintro e W2 ⟨m, rfl, hm0, hm1, hC, hK⟩
  replace HC := hide hC
  replace HG := hide ((unhide HG).kept hK (fun e => by have e : g2 = cb := e; omega))
  replace HK := hide ((unhide HK).trans hK)
  clear hC hK
  obtain ⟨gs, egs⟩ : ∃ q, q = W2.heap.size := ⟨_, rfl⟩
  have hgs : g2 < gs := by have := (unhide HG).lt; omega
  obtain ⟨V5, eV5⟩ : ∃ V, V = W2.alloc (.cells #[.int .i64 k, .int .i64 m] 44) := ⟨_, rfl⟩
  have hA5 : Below W2.heap.size W2 V5 := by rw [eV5]; exact Below.alloc1 _ _
  have HS : Hid (OwnV V5 gs [.int .i64 k, .int .i64 m]) := by show OwnV _ _ _; rw [eV5, egs]; exact ownV_alloc _ _ _
  replace HG := hide ((unhide HG).step hA5)
  replace HC := hide ((unhide HC).below hA5)
  replace HK := hide ((unhide HK).trans (kept_of_below hA5))
  go_upto_region 2 with (fail)
  rw [← eV5, ← egs]
  clear eV5 egs hA5 qk pk Ek
  go_wp2_with fail
  refine (unhide QB _ (unhide HC) 30 (by omega) (by omega)).mono ?_
  rintro e W3 ⟨kk, rfl, hkk0, hkk1, hC, hK⟩
  replace HC := hide hC
  replace HG := hide ((unhide HG).kept hK (fun e => by have e : g2 = cb := e; omega))
  replace HS := hide ((unhide HS).kept hK (fun e => by have e : gs = cb := e; omega))
  replace HK := hide ((unhide HK).trans hK)
  clear hC hK
  by_cases e0 : kk = 0
  case pos =>
    subst e0
    clear hkk0 hkk1
    go_upto_region 4 with (fail)
    have hA := Below.alloc1 W3 (.cells #[.int .i64 0, .int .i64 8] 3)
    have HI := hide (ownV_alloc W3 #[.int .i64 0, .int .i64 8] 3)
    have hne : ¬ W3.heap.size = cb := by have := (unhide HC).lt; omega
    replace HG := hide ((unhide HG).step hA)
    replace HS := hide ((unhide HS).step hA)
    replace HC := hide ((unhide HC).below hA)
    replace HK := hide ((unhide HK).trans (kept_of_below hA))
    clear hA
    go_wp2_with fail
    refine (l1PickInt_any cb n v _ 2 [0, 8] _ (unhide HC) hn (unhide HI) hne rfl (by omega) (by omega)).mono ?_
    rintro e W3p ⟨zj, rfl, hC, hK⟩
    clear HI hne
    replace HC := hide hC
    replace HG := hide ((unhide HG).kept hK (fun e => by have e : g2 = cb := e; omega))
    replace HS := hide ((unhide HS).kept hK (fun e => by have e : gs = cb := e; omega))
    replace HK := hide ((unhide HK).trans hK)
    clear hC hK
    have s0 := (unhide HS).cell (i := 0) rfl
    have sf := (unhide HS).frozen 0
    obtain ⟨Y0, eWn⟩ : ∃ Wq, Wq = W3p.setCell ⟨gs, 0, none⟩ (.int .i64 (zj)) := ⟨_, rfl⟩
    have hkp := kept1 W3p gs 0 (.int .i64 (zj))
    rw [← eWn] at hkp
    replace HS : Hid (OwnV Y0 gs [.int .i64 zj, .int .i64 m]) := by show OwnV _ _ _; rw [eWn]; exact (unhide HS).set 0 _ (by simp)
    replace HG := hide ((unhide HG).kept hkp (fun e => by have e : g2 = gs := e; omega))
    replace HC := hide ((unhide HC).kept hkp (fun b hb => by have hb : b = gs := hb; omega))
    replace HK := hide ((unhide HK).own hkp (fun b hb => by have hb : b = gs := hb; omega))
    go_upto_region 7 with (fail)
    rw [← eWn]
    clear eWn hkp s0 sf
    have s0 := (unhide HS).cell (i := 0) rfl
    have s1 := (unhide HS).cell (i := 1) rfl
    have c0 := (unhide HG).cell (i := 0) rfl
    have f0 := (unhide HG).frozen 0
    have c1 := (unhide HG).cell (i := 1) rfl
    have f1 := (unhide HG).frozen 1
    obtain ⟨V9, eV9⟩ : ∃ V, V = (Y0.setCell ⟨g2, 0, none⟩ (.int .i64 zj)).setCell ⟨g2, 1, none⟩ (.int .i64 m) := ⟨_, rfl⟩
    have HG9 : Hid (OwnV V9 g2 [.int .i64 zj, .int .i64 m]) := by show OwnV _ _ _; rw [eV9]; exact own2 (unhide HG) (zj) (m)
    have hkp : Kept (fun b => b = g2) Y0 V9 := by rw [eV9]; exact kept2 _ _ (zj) (m)
    have HC9 := hide ((unhide HC).kept hkp (fun b hb => by have hb : b = g2 := hb; omega))
    have HK9 := hide ((unhide HK).own hkp (fun b hb => by have hb : b = g2 := hb; omega))
    clear hkp
    go_wp2
    rw [← eV9]
    have k0 := (unhide HG9).cell (i := 0) rfl
    have k1 := (unhide HG9).cell (i := 1) rfl
    refine bodyPost_ret (v := vSignal (zj) (m)) (by simp [results, Try.results53, go_sem, vSignal, k0, k1]) rfl ⟨_, _, rfl, unhide HC9, unhide HK9⟩
  have d0 : (kk == 0) = false := by simp [e0]
  by_cases e1 : kk = 1
  case pos =>
    subst e1
    clear hkk0 hkk1
    go_upto_region 6 with (fail)
    have hA := Below.alloc1 W3 (.cells #[.int .i64 (-1), .int .i64 1000000, .int .i64 1000001] 3)
    have HI := hide (ownV_alloc W3 #[.int .i64 (-1), .int .i64 1000000, .int .i64 1000001] 3)
    have hne : ¬ W3.heap.size = cb := by have := (unhide HC).lt; omega
    replace HG := hide ((unhide HG).step hA)
    replace HS := hide ((unhide HS).step hA)
    replace HC := hide ((unhide HC).below hA)
    replace HK := hide ((unhide HK).trans (kept_of_below hA))
    clear hA
    go_wp2_with fail
    refine (l1PickInt_any cb n v _ 3 [-1, 1000000, 1000001] _ (unhide HC) hn (unhide HI) hne rfl (by omega) (by omega)).mono ?_
    rintro e W3p ⟨zj, rfl, hC, hK⟩
    clear HI hne
    replace HC := hide hC
    replace HG := hide ((unhide HG).kept hK (fun e => by have e : g2 = cb := e; omega))
    replace HS := hide ((unhide HS).kept hK (fun e => by have e : gs = cb := e; omega))
    replace HK := hide ((unhide HK).trans hK)
    clear hC hK
    have s0 := (unhide HS).cell (i := 1) rfl
    have sf := (unhide HS).frozen 1
    obtain ⟨Y0, eWn⟩ : ∃ Wq, Wq = W3p.setCell ⟨gs, 1, none⟩ (.int .i64 (zj)) := ⟨_, rfl⟩
    have hkp := kept1 W3p gs 1 (.int .i64 (zj))
    rw [← eWn] at hkp
    replace HS : Hid (OwnV Y0 gs [.int .i64 k, .int .i64 zj]) := by show OwnV _ _ _; rw [eWn]; exact (unhide HS).set 1 _ (by simp)
    replace HG := hide ((unhide HG).kept hkp (fun e => by have e : g2 = gs := e; omega))
    replace HC := hide ((unhide HC).kept hkp (fun b hb => by have hb : b = gs := hb; omega))
    replace HK := hide ((unhide HK).own hkp (fun b hb => by have hb : b = gs := hb; omega))
    go_upto_region 7 with (fail)
    rw [← eWn]
    clear eWn hkp s0 sf
    have s0 := (unhide HS).cell (i := 0) rfl
    have s1 := (unhide HS).cell (i := 1) rfl
    have c0 := (unhide HG).cell (i := 0) rfl
    have f0 := (unhide HG).frozen 0
    have c1 := (unhide HG).cell (i := 1) rfl
    have f1 := (unhide HG).frozen 1
    obtain ⟨V9, eV9⟩ : ∃ V, V = (Y0.setCell ⟨g2, 0, none⟩ (.int .i64 k)).setCell ⟨g2, 1, none⟩ (.int .i64 zj) := ⟨_, rfl⟩
    have HG9 : Hid (OwnV V9 g2 [.int .i64 k, .int .i64 zj]) := by show OwnV _ _ _; rw [eV9]; exact own2 (unhide HG) (k) (zj)
    have hkp : Kept (fun b => b = g2) Y0 V9 := by rw [eV9]; exact kept2 _ _ (k) (zj)
    have HC9 := hide ((unhide HC).kept hkp (fun b hb => by have hb : b = g2 := hb; omega))
    have HK9 := hide ((unhide HK).own hkp (fun b hb => by have hb : b = g2 := hb; omega))
    clear hkp
    go_wp2
    rw [← eV9]
    have k0 := (unhide HG9).cell (i := 0) rfl
    have k1 := (unhide HG9).cell (i := 1) rfl
    refine bodyPost_ret (v := vSignal (k) (zj)) (by simp [results, Try.results53, go_sem, vSignal, k0, k1]) rfl ⟨_, _, rfl, unhide HC9, unhide HK9⟩
  have d1 : (kk == 1) = false := by simp [e1]
  clear e0 e1
  go_upto_region 7 with (fail)
  have s0 := (unhide HS).cell (i := 0) rfl
  have s1 := (unhide HS).cell (i := 1) rfl
  have c0 := (unhide HG).cell (i := 0) rfl
  have f0 := (unhide HG).frozen 0
  have c1 := (unhide HG).cell (i := 1) rfl
  have f1 := (unhide HG).frozen 1
  obtain ⟨V9, eV9⟩ : ∃ V, V = (W3.setCell ⟨g2, 0, none⟩ (.int .i64 k)).setCell ⟨g2, 1, none⟩ (.int .i64 m) := ⟨_, rfl⟩
  have HG9 : Hid (OwnV V9 g2 [.int .i64 k, .int .i64 m]) := by show OwnV _ _ _; rw [eV9]; exact own2 (unhide HG) (k) (m)
  have hkp : Kept (fun b => b = g2) W3 V9 := by rw [eV9]; exact kept2 _ _ (k) (m)
  have HC9 := hide ((unhide HC).kept hkp (fun b hb => by have hb : b = g2 := hb; omega))
  have HK9 := hide ((unhide HK).own hkp (fun b hb => by have hb : b = g2 := hb; omega))
  clear hkp
  go_wp2
  rw [← eV9]
  have k0 := (unhide HG9).cell (i := 0) rfl
  have k1 := (unhide HG9).cell (i := 1) rfl
  refine bodyPost_ret (v := vSignal (k) (m)) (by simp [results, Try.results53, go_sem, vSignal, k0, k1]) rfl ⟨_, _, rfl, unhide HC9, unhide HK9⟩

set_option maxRecDepth 100000 in
set_option maxHeartbeats 16000000 in
theorem drawHoist_any (v : Value) (n : Nat) (w : World) (h : BytesIn w.heap.size w v n) (hn : n ≤ 1048576) :
    Calls Try.prog 20 #[v] w fun e w' => ∃ H ao m c M, e = .returned (.tuple #[vHoist H.q H.ld H.he H.lw H.hg H.lm H.rs, .slice ao m c]) ∧ goodH H = true ∧ RSignal w' (.slice ao m c) M ∧ M.length ≤ 40 ∧ Below w.heap.size w w' := by
  have HB := hide h
  have hA := Below.alloc1 w (.cells #[.int .i64 0, .int .i64 0, .int .i64 0, .int .i64 0, .int .i64 0, .int .i64 0, .int .i64 0] 37)
  have HG := hide (ownV_alloc w #[.int .i64 0, .int .i64 0, .int .i64 0, .int .i64 0, .int .i64 0, .int .i64 0, .int .i64 0] 37)
  obtain ⟨V0, eV0⟩ : ∃ V, V = w.alloc (.cells #[.int .i64 0, .int .i64 0, .int .i64 0, .int .i64 0, .int .i64 0, .int .i64 0, .int .i64 0] 37) := ⟨_, rfl⟩
  rw [← eV0] at hA HG
  replace HB := hide (bytes_up ((unhide HB).below hA (Nat.le_refl _)) hA.size)
  have HW := hide hA
  obtain ⟨g2, eg2⟩ : ∃ g, g = w.heap.size := ⟨_, rfl⟩
  rw [← eg2] at HG
  have hg2w : w.heap.size ≤ g2 := by omega
  have QD0 := hide fun cb i hh W (hW : CurX W cb v n i hh) => l20DrawHoist_x cb n i v hh W hW
  have QB0 := hide fun cb W (hW : Cur W cb v n) k h0 h1 => l1BelowV_any cb n v k W hW hn h0 h1
  have QS0 := hide fun cb W (hW : Cur W cb v n) => l20DrawSignal_any cb n v W hW hn
  clear h hA
  go_enter Try.func20, Try.ntmps20
  go_wp2_with fail
  rw [← eV0, ← eg2]
  clear eV0 eg2
  refine (l1New_any v n V0 (unhide HB) hn).mono ?_
  rintro e W0 ⟨rfl, hC0, hB0, hs0⟩
  obtain ⟨cb, ecb⟩ : ∃ cb, cb = V0.heap.size := ⟨_, rfl⟩
  have hcg : g2 < cb := by have := (unhide HG).lt; omega
  have hcw : w.heap.size ≤ cb := by omega
  rw [← ecb] at hC0 ⊢
  have hcb0 : cb < W0.heap.size := by omega
  obtain ⟨i0, h0, hCx⟩ := hC0.exact
  have HC := hide hCx
  replace HG := hide ((unhide HG).step hB0)
  replace HW := hide (Below.step (unhide HW) hB0)
  clear hC0 hB0 HB ecb hs0 hCx
  have QD := hide fun i hh W (hW : CurX W cb v n i hh) => unhide QD0 cb i hh W hW
  have QB := hide fun W (hW : Cur W cb v n) k h0 h1 => unhide QB0 cb W hW k h0 h1
  have QS := hide fun W (hW : Cur W cb v n) => unhide QS0 cb W hW
  clear QD0 QB0 QS0
  go_wp2_with fail
  refine (unhide QD _ _ _ (unhide HC)).mono ?_
  rintro e W1 ⟨H0, i1, h1, rfl, hD, hC, hK⟩
  replace HC := hide hC
  replace HG := hide ((unhide HG).kept hK (fun e => by have e : g2 = cb := e; omega))
  have hwb := (unhide HW).size
  replace HW := hide ((unhide HW).trans (hK.below hwb fun b e => by have e : b = cb := e; omega))
  obtain ⟨gk0, hgk, -⟩ := rk_start n 9 hoT (by decide) i1 hC.le h1
  have HRK : Hid (goodH H0 = false → Rk n 9 hoT gk0 i1 h1) := fun _ => hgk
  have hcb1 : cb < W1.heap.size := by have := hK.size; omega
  clear hC hK hD hwb hgk hcb0
  obtain ⟨q0, ld0, he0, lw0, hg0, lm0, rs0⟩ := H0
  dsimp only
  unfold vHoist
  obtain ⟨gs, egs⟩ : ∃ q, q = W1.heap.size := ⟨_, rfl⟩
  have hgs : cb < gs := by omega
  obtain ⟨V1, eV1⟩ : ∃ V, V = W1.alloc (.cells #[.int .i64 q0, .int .i64 ld0, .int .i64 he0, .int .i64 lw0, .int .i64 hg0, .int .i64 lm0, .int .i64 rs0] 37) := ⟨_, rfl⟩
  have hA1 : Below W1.heap.size W1 V1 := by rw [eV1]; exact Below.alloc1 _ _
  have HS : Hid (OwnV V1 gs [.int .i64 q0, .int .i64 ld0, .int .i64 he0, .int .i64 lw0, .int .i64 hg0, .int .i64 lm0, .int .i64 rs0]) := by show OwnV _ _ _; rw [eV1, egs]; exact ownV_alloc _ _ _
  replace HG := hide ((unhide HG).step hA1)
  replace HC := hide ((unhide HC).below hA1)
  replace HW := hide (Below.step (unhide HW) hA1)
  go_wp2_with fail
  rw [← eV1, ← egs]
  clear eV1 egs hA1 hcb1
  go_loopg [] gk0 (fun g wr => ∃ (H : Ho) (i : Nat) (hh : Int), Hid (OwnV wr g2 [.int .i64 0, .int .i64 0, .int .i64 0, .int .i64 0, .int .i64 0, .int .i64 0, .int .i64 0]) ∧ Hid (OwnV wr gs [.int .i64 H.q, .int .i64 H.ld, .int .i64 H.he, .int .i64 H.lw, .int .i64 H.hg, .int .i64 H.lm, .int .i64 H.rs]) ∧ Hid (CurX wr cb v n i hh) ∧ Hid (Below w.heap.size w wr) ∧ Hid (goodH H = false → Rk n 9 hoT g i hh))
  case atStart => exact ⟨⟨q0, ld0, he0, lw0, hg0, lm0, rs0⟩, i1, h1, HG, HS, HC, HW, HRK⟩
  case round =>
    clear HG HS HC HW HRK
    obtain ⟨H, i, hh, HG, HS, HC, HW, HR⟩ := hrel
    obtain ⟨q, ld, he, lw, hg, lm, rs⟩ := H
    replace HS : Hid (OwnV wr gs [.int .i64 q, .int .i64 ld, .int .i64 he, .int .i64 lw, .int .i64 hg, .int .i64 lm, .int .i64 rs]) := HS
    have s0 := (unhide HS).cell (i := 0) rfl
    have s1 := (unhide HS).cell (i := 1) rfl
    have s2 := (unhide HS).cell (i := 2) rfl
    have s3 := (unhide HS).cell (i := 3) rfl
    have s4 := (unhide HS).cell (i := 4) rfl
    have s5 := (unhide HS).cell (i := 5) rfl
    have s6 := (unhide HS).cell (i := 6) rfl
    have QH : Hid (∀ W, Calls Try.prog 34 #[.agg #[.int .i64 q, .int .i64 ld, .int .i64 he, .int .i64 lw, .int .i64 hg, .int .i64 lm, .int .i64 rs]] W fun e w' => e = .returned (.bool (hoB ⟨q, ld, he, lw, hg, lm, rs⟩)) ∧ Below W.heap.size W w') := fun W => specHoistOk_any ⟨q, ld, he, lw, hg, lm, rs⟩ W
    obtain ⟨bb, ebb⟩ : ∃ b, b = hoB ⟨q, ld, he, lw, hg, lm, rs⟩ := ⟨_, rfl⟩
    rw [← ebb] at QH
    have HBB := hide ebb.symm
    clear ebb
    cases bb with
    | false =>
      go_wp2_with fail
      refine (unhide QH _).mono ?_
      rintro e W2 ⟨rfl, hb⟩
      replace HG := hide ((unhide HG).step hb)
      replace HS := hide ((unhide HS).step hb)
      replace HC := hide ((unhide HC).below hb)
      replace HW := hide (Below.step (unhide HW) hb)
      clear hb s0 s1 s2 s3 s4 s5 s6
      have s0 := (unhide HS).cell (i := 0) rfl
      have s1 := (unhide HS).cell (i := 1) rfl
      have s2 := (unhide HS).cell (i := 2) rfl
      have s3 := (unhide HS).cell (i := 3) rfl
      have s4 := (unhide HS).cell (i := 4) rfl
      have s5 := (unhide HS).cell (i := 5) rfl
      have s6 := (unhide HS).cell (i := 6) rfl
      have hbad : goodH ⟨q, ld, he, lw, hg, lm, rs⟩ = false := bad_of (Or.inl (unhide HBB))
      have HR2 := hide (unhide HR hbad)
      clear hbad HR QH HBB
      go_wp2_with fail
      refine (unhide QD i hh _ (unhide HC)).mono ?_
      rintro e W3 ⟨H', i', h', rfl, hD, hC, hK⟩
      obtain ⟨g', hg', hrk⟩ := rk_step (ho_dr n) (unhide HR2) hD
      have HRK : Hid (goodH H' = false → Rk n 9 hoT g' i' h') := fun e => hrk (by rw [e]; decide)
      replace HC := hide hC
      replace HG := hide ((unhide HG).kept hK (fun e => by have e : g2 = cb := e; omega))
      replace HS := hide ((unhide HS).kept hK (fun e => by have e : gs = cb := e; omega))
      have hwb := (unhide HW).size
      replace HW := hide ((unhide HW).trans (hK.below hwb fun b e => by have e : b = cb := e; omega))
      obtain ⟨q', ld', he', lw', hg'', lm', rs'⟩ := H'
      dsimp only
      unfold vHoist
      clear hC hK hD hrk hwb HR2 s0 s1 s2 s3 s4 s5 s6
      have s0 := (unhide HS).cell (i := 0) rfl
      have f0 := (unhide HS).frozen 0
      have s1 := (unhide HS).cell (i := 1) rfl
      have f1 := (unhide HS).frozen 1
      have s2 := (unhide HS).cell (i := 2) rfl
      have f2 := (unhide HS).frozen 2
      have s3 := (unhide HS).cell (i := 3) rfl
      have f3 := (unhide HS).frozen 3
      have s4 := (unhide HS).cell (i := 4) rfl
      have f4 := (unhide HS).frozen 4
      have s5 := (unhide HS).cell (i := 5) rfl
      have f5 := (unhide HS).frozen 5
      have s6 := (unhide HS).cell (i := 6) rfl
      have f6 := (unhide HS).frozen 6
      obtain ⟨V4, eV4⟩ : ∃ V, V = ((((((W3.setCell ⟨gs, 0, none⟩ (.int .i64 q')).setCell ⟨gs, 1, none⟩ (.int .i64 ld')).setCell ⟨gs, 2, none⟩ (.int .i64 he')).setCell ⟨gs, 3, none⟩ (.int .i64 lw')).setCell ⟨gs, 4, none⟩ (.int .i64 hg'')).setCell ⟨gs, 5, none⟩ (.int .i64 lm')).setCell ⟨gs, 6, none⟩ (.int .i64 rs') := ⟨_, rfl⟩
      have HS4 : Hid (OwnV V4 gs [.int .i64 q', .int .i64 ld', .int .i64 he', .int .i64 lw', .int .i64 hg'', .int .i64 lm', .int .i64 rs']) := by show OwnV _ _ _; rw [eV4]; exact own7 (unhide HS) q' ld' he' lw' hg'' lm' rs'
      have hkp : Kept (fun b => b = gs) W3 V4 := by rw [eV4]; exact kept7 _ _ q' ld' he' lw' hg'' lm' rs'
      have HC4 := hide ((unhide HC).kept hkp (fun b hb => by have hb : b = gs := hb; omega))
      have HG4 := hide ((unhide HG).kept hkp (fun e => by have e : g2 = gs := e; omega))
      have hwb := (unhide HW).size
      have HW4 := hide ((unhide HW).trans (hkp.below hwb fun b e => by have e : b = gs := e; omega))
      clear hkp hwb
      go_wp2
      rw [← eV4]
      go_roundg g'
      case measure => exact hg'
      case rel => exact ⟨⟨q', ld', he', lw', hg'', lm', rs'⟩, i', h', HG4, HS4, HC4, HW4, HRK⟩
    | true =>
      by_cases hq1 : q = 1
      case neg =>
        have dq : (q == 1) = false := by simp [hq1]
        have HNQ := hide hq1
        clear hq1
        go_wp2_with fail
        refine (unhide QH _).mono ?_
        rintro e W2 ⟨rfl, hb⟩
        replace HG := hide ((unhide HG).step hb)
        replace HS := hide ((unhide HS).step hb)
        replace HC := hide ((unhide HC).below hb)
        replace HW := hide (Below.step (unhide HW) hb)
        clear hb s0 s1 s2 s3 s4 s5 s6
        have s0 := (unhide HS).cell (i := 0) rfl
        have s1 := (unhide HS).cell (i := 1) rfl
        have s2 := (unhide HS).cell (i := 2) rfl
        have s3 := (unhide HS).cell (i := 3) rfl
        have s4 := (unhide HS).cell (i := 4) rfl
        have s5 := (unhide HS).cell (i := 5) rfl
        have s6 := (unhide HS).cell (i := 6) rfl
        have HGD : Hid (goodH ⟨q, ld, he, lw, hg, lm, rs⟩ = true) := good_of (unhide HBB) (fun e => unhide HNQ e.1)
        go_upto_region 5 with (fail)
        clear HR QH HBB HNQ dq
        have hA := Below.alloc1 W2 (.cells #[] 44)
        have HT := hide (rowB_new 44 2 eSignal W2 W2.heap.size (Nat.le_refl _))
        obtain ⟨V1, eV1⟩ : ∃ V, V = W2.alloc (.cells #[] 44) := ⟨_, rfl⟩
        rw [← eV1] at HT hA
        obtain ⟨ro, ero⟩ : ∃ r : Option Addr, r = some ⟨W2.heap.size, 0, none⟩ := ⟨_, rfl⟩
        rw [← ero] at HT
        obtain ⟨U, eU⟩ : ∃ z, z = W2.heap.size := ⟨_, rfl⟩
        rw [← eU] at HT
        have hgsU : gs < U := by have := (unhide HS).lt; omega
        have hwU : w.heap.size ≤ U := by have := (unhide HW).size; omega
        replace HG := hide ((unhide HG).step hA)
        replace HS := hide ((unhide HS).step hA)
        have HC1 := hide ((unhide HC).cur.below hA)
        replace HW := hide (Below.step (unhide HW) hA)
        have hU1 : U ≤ V1.heap.size := by have := hA.size; omega
        clear HC s0 s1 s2 s3 s4 s5 s6
        go_wp2_with fail
        rw [← eV1, ← ero]
        clear eV1 ero hA eU
        refine (unhide QB _ (unhide HC1) 40 (by omega) (by omega)).mono ?_
        rintro e W4 ⟨x, rfl, hx0, hx1, hC, hK⟩
        replace HC1 := hide hC
        replace HG := hide ((unhide HG).kept hK (fun e => by have e : g2 = cb := e; omega))
        replace HS := hide ((unhide HS).kept hK (fun e => by have e : gs = cb := e; omega))
        replace HT := hide ((unhide HT).kept hK (fun g _ hg _ e => by have e : g = cb := e; omega))
        have hwb := (unhide HW).size
        replace HW := hide ((unhide HW).trans (hK.below hwb fun b e => by have e : b = cb := e; omega))
        have hU4 : U ≤ W4.heap.size := by have := hK.size; omega
        clear hC hK hwb hU1
        obtain ⟨N, rfl⟩ : ∃ N : Nat, x = (N : Int) := ⟨x.toNat, by omega⟩
        generalize hw9 : W4 = w9 at *
        clear hw9
        go_wp2
        go_loopg [6, 7] N (fun g ov iv wr => ∃ (i k d : Nat) (bo : Option Addr) (M : List SignalT), i ≤ N ∧ g = i ∧ iv = .int .i64 (i : Int) ∧ ov = .slice bo k d ∧ k + i = N ∧ U ≤ wr.heap.size ∧ Hid (RowB 44 2 eSignal U wr bo k d M) ∧ Hid (OwnV wr g2 [.int .i64 0, .int .i64 0, .int .i64 0, .int .i64 0, .int .i64 0, .int .i64 0, .int .i64 0]) ∧ Hid (OwnV wr gs [.int .i64 q, .int .i64 ld, .int .i64 he, .int .i64 lw, .int .i64 hg, .int .i64 lm, .int .i64 rs]) ∧ Hid (Cur wr cb v n) ∧ Hid (Below w.heap.size w wr))
        case atStart => exact ⟨N, 0, 0, ro, [], Nat.le_refl _, rfl, rfl, rfl, by omega, hU4, HT, HG, HS, HC1, HW⟩
        case round =>
          clear HT HG HS HC1 HW hU4
          obtain ⟨i, k, d, bo, M, hi, hgi, rfl, rfl, hki, hU2, HT, HG, HS, HC1, HW⟩ := hrel
          have HGI := hide hgi
          clear hgi
          by_cases hi0 : 0 < i
          · have hii : (0 : Int) < (i : Int) := by omega
            go_wp2_with fail
            refine (unhide QS _ (unhide HC1)).mono ?_
            rintro e U3 ⟨a, t, rfl, hC, hK⟩
            replace HC1 := hide hC
            replace HG := hide ((unhide HG).kept hK (fun e => by have e : g2 = cb := e; omega))
            replace HS := hide ((unhide HS).kept hK (fun e => by have e : gs = cb := e; omega))
            have hwb := (unhide HW).size
            replace HW := hide ((unhide HW).trans (hK.below hwb fun b e => by have e : b = cb := e; omega))
            replace HT := hide ((unhide HT).kept hK (fun g _ hg _ e => by have e : g = cb := e; omega))
            have hU3 : U ≤ U3.heap.size := by have := hK.size; omega
            clear hC hK hwb
            have hA3 := Below.alloc1 U3 (.cells #[.int .i64 a, .int .i64 t] 44)
            have HX := hide (ownV_alloc U3 #[.int .i64 a, .int .i64 t] 44)
            replace HT := hide ((unhide HT).below hA3)
            replace HG := hide ((unhide HG).step hA3)
            replace HS := hide ((unhide HS).step hA3)
            replace HC1 := hide ((unhide HC1).below hA3)
            replace HW := hide (Below.step (unhide HW) hA3)
            have hU4 : U ≤ (U3.alloc (.cells #[.int .i64 a, .int .i64 t] 44)).heap.size := Nat.le_trans hU3 hA3.size
            clear hA3
            obtain ⟨j, rfl⟩ : ∃ j, i = j + 1 := ⟨i - 1, by omega⟩
            have q5 : IntKind.i64.wrap (((j + 1 : Nat) : Int) - 1) = (j : Int) := by rw [IntKind.wrap_i64]; omega
            have q6 : ((j + 1 : Nat) : Int) - 1 = (j : Int) := by omega
            unfold vSignal
            go_wp2_with (at_builtin; go_must (refine wpList_appRow tySignal _ rfl _ _ rfl U bo k d M rfl (unhide HT) hU4 (by omega) U3.heap.size (a, t) 1 rfl (unhide HX) ?_); intro g' cap' w6 hL hK6 hBg hat; have HT2 := hide hL; have HKK := hide hK6; clear hL hK6 hat)
            have hbk := rowB_at (unhide HT) (by decide)
            go_roundg j
            case measure => have := unhide HGI; omega
            case rel => exact ⟨j, k + 1, cap', _, _, by omega, rfl, by go_num, rfl, by omega, Nat.le_trans hU4 (unhide HKK).size, HT2, (unhide HG).kept (unhide HKK) (fun e => by have := hbk g2 e; omega), (unhide HS).kept (unhide HKK) (fun e => by have := hbk gs e; omega), (unhide HC1).kept (unhide HKK) (fun b hb => by have := hbk b hb; omega), (unhide HW).trans ((unhide HKK).below (unhide HW).size (fun b hb => by have := hbk b hb; omega))⟩
          · obtain rfl : i = 0 := by omega
            have hMl := (unhide HT).len (by decide)
            have s0 := (unhide HS).cell (i := 0) rfl
            have c0 := (unhide HG).cell (i := 0) rfl
            have f0 := (unhide HG).frozen 0
            have s1 := (unhide HS).cell (i := 1) rfl
            have c1 := (unhide HG).cell (i := 1) rfl
            have f1 := (unhide HG).frozen 1
            have s2 := (unhide HS).cell (i := 2) rfl
            have c2 := (unhide HG).cell (i := 2) rfl
            have f2 := (unhide HG).frozen 2
            have s3 := (unhide HS).cell (i := 3) rfl
            have c3 := (unhide HG).cell (i := 3) rfl
            have f3 := (unhide HG).frozen 3
            have s4 := (unhide HS).cell (i := 4) rfl
            have c4 := (unhide HG).cell (i := 4) rfl
            have f4 := (unhide HG).frozen 4
            have s5 := (unhide HS).cell (i := 5) rfl
            have c5 := (unhide HG).cell (i := 5) rfl
            have f5 := (unhide HG).frozen 5
            have s6 := (unhide HS).cell (i := 6) rfl
            have c6 := (unhide HG).cell (i := 6) rfl
            have f6 := (unhide HG).frozen 6
            obtain ⟨V9, eV9⟩ : ∃ V, V = ((((((wr.setCell ⟨g2, 0, none⟩ (.int .i64 q)).setCell ⟨g2, 1, none⟩ (.int .i64 ld)).setCell ⟨g2, 2, none⟩ (.int .i64 he)).setCell ⟨g2, 3, none⟩ (.int .i64 lw)).setCell ⟨g2, 4, none⟩ (.int .i64 hg)).setCell ⟨g2, 5, none⟩ (.int .i64 lm)).setCell ⟨g2, 6, none⟩ (.int .i64 rs) := ⟨_, rfl⟩
            have HG9 : Hid (OwnV V9 g2 [.int .i64 q, .int .i64 ld, .int .i64 he, .int .i64 lw, .int .i64 hg, .int .i64 lm, .int .i64 rs]) := by show OwnV _ _ _; rw [eV9]; exact own7 (unhide HG) q ld he lw hg lm rs
            have hkp : Kept (fun b => b = g2) wr V9 := by rw [eV9]; exact kept7 _ _ q ld he lw hg lm rs
            have HT9 := hide ((unhide HT).kept hkp (fun g _ hg _ e => by have e : g = g2 := e; omega))
            have HW9 := hide ((unhide HW).trans (hkp.below (unhide HW).size (fun b hb => by have hb : b = g2 := hb; omega)))
            clear hkp
            go_wp2
            rw [← eV9]
            have k0 := (unhide HG9).cell (i := 0) rfl
            have k1 := (unhide HG9).cell (i := 1) rfl
            have k2 := (unhide HG9).cell (i := 2) rfl
            have k3 := (unhide HG9).cell (i := 3) rfl
            have k4 := (unhide HG9).cell (i := 4) rfl
            have k5 := (unhide HG9).cell (i := 5) rfl
            have k6 := (unhide HG9).cell (i := 6) rfl
            refine bodyPost_ret (v := .tuple #[vHoist q ld he lw hg lm rs, .slice bo k d]) (by simp [results, Try.results20, go_sem, vHoist, k0, k1, k2, k3, k4, k5, k6]) rfl ⟨⟨q, ld, he, lw, hg, lm, rs⟩, _, _, _, M, rfl, unhide HGD, (unhide HT9).recs (by decide), by omega, unhide HW9⟩
      case pos =>
        subst hq1
        by_cases hlm : lm < ld
        case pos =>
          go_wp2_with fail
          refine (unhide QH _).mono ?_
          rintro e W2 ⟨rfl, hb⟩
          replace HG := hide ((unhide HG).step hb)
          replace HS := hide ((unhide HS).step hb)
          replace HC := hide ((unhide HC).below hb)
          replace HW := hide (Below.step (unhide HW) hb)
          clear hb s0 s1 s2 s3 s4 s5 s6
          have s0 := (unhide HS).cell (i := 0) rfl
          have s1 := (unhide HS).cell (i := 1) rfl
          have s2 := (unhide HS).cell (i := 2) rfl
          have s3 := (unhide HS).cell (i := 3) rfl
          have s4 := (unhide HS).cell (i := 4) rfl
          have s5 := (unhide HS).cell (i := 5) rfl
          have s6 := (unhide HS).cell (i := 6) rfl
          have hbad : goodH ⟨1, ld, he, lw, hg, lm, rs⟩ = false := bad_of (Or.inr ⟨rfl, hlm⟩)
          have HR2 := hide (unhide HR hbad)
          clear hbad HR QH HBB
          go_wp2_with fail
          refine (unhide QD i hh _ (unhide HC)).mono ?_
          rintro e W3 ⟨H', i', h', rfl, hD, hC, hK⟩
          obtain ⟨g', hg', hrk⟩ := rk_step (ho_dr n) (unhide HR2) hD
          have HRK : Hid (goodH H' = false → Rk n 9 hoT g' i' h') := fun e => hrk (by rw [e]; decide)
          replace HC := hide hC
          replace HG := hide ((unhide HG).kept hK (fun e => by have e : g2 = cb := e; omega))
          replace HS := hide ((unhide HS).kept hK (fun e => by have e : gs = cb := e; omega))
          have hwb := (unhide HW).size
          replace HW := hide ((unhide HW).trans (hK.below hwb fun b e => by have e : b = cb := e; omega))
          obtain ⟨q', ld', he', lw', hg'', lm', rs'⟩ := H'
          dsimp only
          unfold vHoist
          clear hC hK hD hrk hwb HR2 s0 s1 s2 s3 s4 s5 s6
          have s0 := (unhide HS).cell (i := 0) rfl
          have f0 := (unhide HS).frozen 0
          have s1 := (unhide HS).cell (i := 1) rfl
          have f1 := (unhide HS).frozen 1
          have s2 := (unhide HS).cell (i := 2) rfl
          have f2 := (unhide HS).frozen 2
          have s3 := (unhide HS).cell (i := 3) rfl
          have f3 := (unhide HS).frozen 3
          have s4 := (unhide HS).cell (i := 4) rfl
          have f4 := (unhide HS).frozen 4
          have s5 := (unhide HS).cell (i := 5) rfl
          have f5 := (unhide HS).frozen 5
          have s6 := (unhide HS).cell (i := 6) rfl
          have f6 := (unhide HS).frozen 6
          obtain ⟨V4, eV4⟩ : ∃ V, V = ((((((W3.setCell ⟨gs, 0, none⟩ (.int .i64 q')).setCell ⟨gs, 1, none⟩ (.int .i64 ld')).setCell ⟨gs, 2, none⟩ (.int .i64 he')).setCell ⟨gs, 3, none⟩ (.int .i64 lw')).setCell ⟨gs, 4, none⟩ (.int .i64 hg'')).setCell ⟨gs, 5, none⟩ (.int .i64 lm')).setCell ⟨gs, 6, none⟩ (.int .i64 rs') := ⟨_, rfl⟩
          have HS4 : Hid (OwnV V4 gs [.int .i64 q', .int .i64 ld', .int .i64 he', .int .i64 lw', .int .i64 hg'', .int .i64 lm', .int .i64 rs']) := by show OwnV _ _ _; rw [eV4]; exact own7 (unhide HS) q' ld' he' lw' hg'' lm' rs'
          have hkp : Kept (fun b => b = gs) W3 V4 := by rw [eV4]; exact kept7 _ _ q' ld' he' lw' hg'' lm' rs'
          have HC4 := hide ((unhide HC).kept hkp (fun b hb => by have hb : b = gs := hb; omega))
          have HG4 := hide ((unhide HG).kept hkp (fun e => by have e : g2 = gs := e; omega))
          have hwb := (unhide HW).size
          have HW4 := hide ((unhide HW).trans (hkp.below hwb fun b e => by have e : b = gs := e; omega))
          clear hkp hwb
          go_wp2
          rw [← eV4]
          go_roundg g'
          case measure => exact hg'
          case rel => exact ⟨⟨q', ld', he', lw', hg'', lm', rs'⟩, i', h', HG4, HS4, HC4, HW4, HRK⟩
        case neg =>
          have dl : decide (lm < ld) = false := decide_eq_false hlm
          have HNL := hide hlm
          clear hlm
          go_wp2_with fail
          refine (unhide QH _).mono ?_
          rintro e W2 ⟨rfl, hb⟩
          replace HG := hide ((unhide HG).step hb)
          replace HS := hide ((unhide HS).step hb)
          replace HC := hide ((unhide HC).below hb)
          replace HW := hide (Below.step (unhide HW) hb)
          clear hb s0 s1 s2 s3 s4 s5 s6
          have s0 := (unhide HS).cell (i := 0) rfl
          have s1 := (unhide HS).cell (i := 1) rfl
          have s2 := (unhide HS).cell (i := 2) rfl
          have s3 := (unhide HS).cell (i := 3) rfl
          have s4 := (unhide HS).cell (i := 4) rfl
          have s5 := (unhide HS).cell (i := 5) rfl
          have s6 := (unhide HS).cell (i := 6) rfl
          have HGD : Hid (goodH ⟨1, ld, he, lw, hg, lm, rs⟩ = true) := good_of (unhide HBB) (fun e => absurd e.2 (show ¬ (lm < ld) by have := unhide HNL; omega))
          go_upto_region 5 with (fail)
          clear HR QH HBB HNL dl
          have hA := Below.alloc1 W2 (.cells #[] 44)
          have HT := hide (rowB_new 44 2 eSignal W2 W2.heap.size (Nat.le_refl _))
          obtain ⟨V1, eV1⟩ : ∃ V, V = W2.alloc (.cells #[] 44) := ⟨_, rfl⟩
          rw [← eV1] at HT hA
          obtain ⟨ro, ero⟩ : ∃ r : Option Addr, r = some ⟨W2.heap.size, 0, none⟩ := ⟨_, rfl⟩
          rw [← ero] at HT
          obtain ⟨U, eU⟩ : ∃ z, z = W2.heap.size := ⟨_, rfl⟩
          rw [← eU] at HT
          have hgsU : gs < U := by have := (unhide HS).lt; omega
          have hwU : w.heap.size ≤ U := by have := (unhide HW).size; omega
          replace HG := hide ((unhide HG).step hA)
          replace HS := hide ((unhide HS).step hA)
          have HC1 := hide ((unhide HC).cur.below hA)
          replace HW := hide (Below.step (unhide HW) hA)
          have hU1 : U ≤ V1.heap.size := by have := hA.size; omega
          clear HC s0 s1 s2 s3 s4 s5 s6
          go_wp2_with fail
          rw [← eV1, ← ero]
          clear eV1 ero hA eU
          refine (unhide QB _ (unhide HC1) 40 (by omega) (by omega)).mono ?_
          rintro e W4 ⟨x, rfl, hx0, hx1, hC, hK⟩
          replace HC1 := hide hC
          replace HG := hide ((unhide HG).kept hK (fun e => by have e : g2 = cb := e; omega))
          replace HS := hide ((unhide HS).kept hK (fun e => by have e : gs = cb := e; omega))
          replace HT := hide ((unhide HT).kept hK (fun g _ hg _ e => by have e : g = cb := e; omega))
          have hwb := (unhide HW).size
          replace HW := hide ((unhide HW).trans (hK.below hwb fun b e => by have e : b = cb := e; omega))
          have hU4 : U ≤ W4.heap.size := by have := hK.size; omega
          clear hC hK hwb hU1
          obtain ⟨N, rfl⟩ : ∃ N : Nat, x = (N : Int) := ⟨x.toNat, by omega⟩
          generalize hw9 : W4 = w9 at *
          clear hw9
          go_wp2
          go_loopg [6, 7] N (fun g ov iv wr => ∃ (i k d : Nat) (bo : Option Addr) (M : List SignalT), i ≤ N ∧ g = i ∧ iv = .int .i64 (i : Int) ∧ ov = .slice bo k d ∧ k + i = N ∧ U ≤ wr.heap.size ∧ Hid (RowB 44 2 eSignal U wr bo k d M) ∧ Hid (OwnV wr g2 [.int .i64 0, .int .i64 0, .int .i64 0, .int .i64 0, .int .i64 0, .int .i64 0, .int .i64 0]) ∧ Hid (OwnV wr gs [.int .i64 1, .int .i64 ld, .int .i64 he, .int .i64 lw, .int .i64 hg, .int .i64 lm, .int .i64 rs]) ∧ Hid (Cur wr cb v n) ∧ Hid (Below w.heap.size w wr))
          case atStart => exact ⟨N, 0, 0, ro, [], Nat.le_refl _, rfl, rfl, rfl, by omega, hU4, HT, HG, HS, HC1, HW⟩
          case round =>
            clear HT HG HS HC1 HW hU4
            obtain ⟨i, k, d, bo, M, hi, hgi, rfl, rfl, hki, hU2, HT, HG, HS, HC1, HW⟩ := hrel
            have HGI := hide hgi
            clear hgi
            by_cases hi0 : 0 < i
            · have hii : (0 : Int) < (i : Int) := by omega
              go_wp2_with fail
              refine (unhide QS _ (unhide HC1)).mono ?_
              rintro e U3 ⟨a, t, rfl, hC, hK⟩
              replace HC1 := hide hC
              replace HG := hide ((unhide HG).kept hK (fun e => by have e : g2 = cb := e; omega))
              replace HS := hide ((unhide HS).kept hK (fun e => by have e : gs = cb := e; omega))
              have hwb := (unhide HW).size
              replace HW := hide ((unhide HW).trans (hK.below hwb fun b e => by have e : b = cb := e; omega))
              replace HT := hide ((unhide HT).kept hK (fun g _ hg _ e => by have e : g = cb := e; omega))
              have hU3 : U ≤ U3.heap.size := by have := hK.size; omega
              clear hC hK hwb
              have hA3 := Below.alloc1 U3 (.cells #[.int .i64 a, .int .i64 t] 44)
              have HX := hide (ownV_alloc U3 #[.int .i64 a, .int .i64 t] 44)
              replace HT := hide ((unhide HT).below hA3)
              replace HG := hide ((unhide HG).step hA3)
              replace HS := hide ((unhide HS).step hA3)
              replace HC1 := hide ((unhide HC1).below hA3)
              replace HW := hide (Below.step (unhide HW) hA3)
              have hU4 : U ≤ (U3.alloc (.cells #[.int .i64 a, .int .i64 t] 44)).heap.size := Nat.le_trans hU3 hA3.size
              clear hA3
              obtain ⟨j, rfl⟩ : ∃ j, i = j + 1 := ⟨i - 1, by omega⟩
              have q5 : IntKind.i64.wrap (((j + 1 : Nat) : Int) - 1) = (j : Int) := by rw [IntKind.wrap_i64]; omega
              have q6 : ((j + 1 : Nat) : Int) - 1 = (j : Int) := by omega
              unfold vSignal
              go_wp2_with (at_builtin; go_must (refine wpList_appRow tySignal _ rfl _ _ rfl U bo k d M rfl (unhide HT) hU4 (by omega) U3.heap.size (a, t) 1 rfl (unhide HX) ?_); intro g' cap' w6 hL hK6 hBg hat; have HT2 := hide hL; have HKK := hide hK6; clear hL hK6 hat)
              have hbk := rowB_at (unhide HT) (by decide)
              go_roundg j
              case measure => have := unhide HGI; omega
              case rel => exact ⟨j, k + 1, cap', _, _, by omega, rfl, by go_num, rfl, by omega, Nat.le_trans hU4 (unhide HKK).size, HT2, (unhide HG).kept (unhide HKK) (fun e => by have := hbk g2 e; omega), (unhide HS).kept (unhide HKK) (fun e => by have := hbk gs e; omega), (unhide HC1).kept (unhide HKK) (fun b hb => by have := hbk b hb; omega), (unhide HW).trans ((unhide HKK).below (unhide HW).size (fun b hb => by have := hbk b hb; omega))⟩
            · obtain rfl : i = 0 := by omega
              have hMl := (unhide HT).len (by decide)
              have s0 := (unhide HS).cell (i := 0) rfl
              have c0 := (unhide HG).cell (i := 0) rfl
              have f0 := (unhide HG).frozen 0
              have s1 := (unhide HS).cell (i := 1) rfl
              have c1 := (unhide HG).cell (i := 1) rfl
              have f1 := (unhide HG).frozen 1
              have s2 := (unhide HS).cell (i := 2) rfl
              have c2 := (unhide HG).cell (i := 2) rfl
              have f2 := (unhide HG).frozen 2
              have s3 := (unhide HS).cell (i := 3) rfl
              have c3 := (unhide HG).cell (i := 3) rfl
              have f3 := (unhide HG).frozen 3
              have s4 := (unhide HS).cell (i := 4) rfl
              have c4 := (unhide HG).cell (i := 4) rfl
              have f4 := (unhide HG).frozen 4
              have s5 := (unhide HS).cell (i := 5) rfl
              have c5 := (unhide HG).cell (i := 5) rfl
              have f5 := (unhide HG).frozen 5
              have s6 := (unhide HS).cell (i := 6) rfl
              have c6 := (unhide HG).cell (i := 6) rfl
              have f6 := (unhide HG).frozen 6
              obtain ⟨V9, eV9⟩ : ∃ V, V = ((((((wr.setCell ⟨g2, 0, none⟩ (.int .i64 1)).setCell ⟨g2, 1, none⟩ (.int .i64 ld)).setCell ⟨g2, 2, none⟩ (.int .i64 he)).setCell ⟨g2, 3, none⟩ (.int .i64 lw)).setCell ⟨g2, 4, none⟩ (.int .i64 hg)).setCell ⟨g2, 5, none⟩ (.int .i64 lm)).setCell ⟨g2, 6, none⟩ (.int .i64 rs) := ⟨_, rfl⟩
              have HG9 : Hid (OwnV V9 g2 [.int .i64 1, .int .i64 ld, .int .i64 he, .int .i64 lw, .int .i64 hg, .int .i64 lm, .int .i64 rs]) := by show OwnV _ _ _; rw [eV9]; exact own7 (unhide HG) 1 ld he lw hg lm rs
              have hkp : Kept (fun b => b = g2) wr V9 := by rw [eV9]; exact kept7 _ _ 1 ld he lw hg lm rs
              have HT9 := hide ((unhide HT).kept hkp (fun g _ hg _ e => by have e : g = g2 := e; omega))
              have HW9 := hide ((unhide HW).trans (hkp.below (unhide HW).size (fun b hb => by have hb : b = g2 := hb; omega)))
              clear hkp
              go_wp2
              rw [← eV9]
              have k0 := (unhide HG9).cell (i := 0) rfl
              have k1 := (unhide HG9).cell (i := 1) rfl
              have k2 := (unhide HG9).cell (i := 2) rfl
              have k3 := (unhide HG9).cell (i := 3) rfl
              have k4 := (unhide HG9).cell (i := 4) rfl
              have k5 := (unhide HG9).cell (i := 5) rfl
              have k6 := (unhide HG9).cell (i := 6) rfl
              refine bodyPost_ret (v := .tuple #[vHoist 1 ld he lw hg lm rs, .slice bo k d]) (by simp [results, Try.results20, go_sem, vHoist, k0, k1, k2, k3, k4, k5, k6]) rfl ⟨⟨1, ld, he, lw, hg, lm, rs⟩, _, _, _, M, rfl, unhide HGD, (unhide HT9).recs (by decide), by omega, unhide HW9⟩

end Go.Proofs.Ytgmhijbepkobkaa
