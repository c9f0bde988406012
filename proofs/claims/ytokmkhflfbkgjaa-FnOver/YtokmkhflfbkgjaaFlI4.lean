/- Contracts of the program's Wave.isFinite, Over, Reply. -/
import Derived.Test.YtokmkhflfbkgjaaFlI3
namespace Go.Proofs.Ytokmkhflfbkgjaa
open Go.RowKit

attribute [local go_sem] run_store_float run_store_complex unary_neg_float

set_option maxHeartbeats 800000 in
theorem waveFinite_any (a b : Nat) (ha : a < 18446744073709551616) (hb : b < 18446744073709551616) (w : World) :
    Calls Try.prog 27 #[vW a b] w fun e w' => e = .returned (.bool (finB a && finB b)) ∧ Below w.heap.size w w' := by
  have HA := hide fun V => isFinite_any a ha V
  have HB := hide fun V => isFinite_any b hb V
  clear ha hb
  unfold vW
  cases h1 : finB a with
  | false =>
    rw [h1] at HA
    go_enter Try.func27, Try.ntmps27
    go_wp2_with (first | (go_at_call 33; refine (unhide HA _).mono ?_; rintro e w' ⟨rfl, rfl⟩))
    go_ret
    exact ⟨rfl, Below.alloc1 _ _⟩
  | true =>
    rw [h1] at HA
    obtain ⟨fb, e⟩ : ∃ x, x = finB b := ⟨_, rfl⟩
    rw [← e] at HB ⊢
    clear e h1
    go_enter Try.func27, Try.ntmps27
    go_wp2_with (first | (go_at_call 33; refine (unhide HA _).mono ?_; rintro e w' ⟨rfl, rfl⟩) | (go_at_call 33; refine (unhide HB _).mono ?_; rintro e w' ⟨rfl, rfl⟩))
    go_ret
    exact ⟨ret_bool (by simp), Below.alloc1 _ _⟩

theorem over_no {a b c d : Nat} (h : overOk a b c d = false) : overRe a b c d = 0 ∧ overIm a b c d = 0 := by constructor <;> simp [overRe, overIm, h]

set_option maxRecDepth 10000 in
set_option maxHeartbeats 4000000 in
theorem implOver_any (a b c d : Nat) (la : a < 18446744073709551616) (lb : b < 18446744073709551616) (lc : c < 18446744073709551616) (ld : d < 18446744073709551616) (w : World) :
    Calls Try.prog 15 #[vW a b, vW c d] w fun e w' => ∃ r s, e = .returned (.tuple #[vW r s, .bool (overOk a b c d)]) ∧ fsame .f64 r (overRe a b c d) ∧ fsame .f64 s (overIm a b c d) ∧ Below w.heap.size w w' := by
  have HB0 := hide (box6 w (.float .f64 a) (.float .f64 b) (.float .f64 c) (.float .f64 d) (.float .f64 0) (.float .f64 0) 32 32 32 0)
  obtain ⟨W0, e0⟩ : ∃ x, x = ((w.alloc (.cells #[.float .f64 a, .float .f64 b] 32)).alloc (.cells #[.float .f64 c, .float .f64 d] 32)).alloc (.cells #[.float .f64 0, .float .f64 0] 32) := ⟨_, rfl⟩
  have HB : Hid (Box6 w W0 (.float .f64 a) (.float .f64 b) (.float .f64 c) (.float .f64 d) (.float .f64 0) (.float .f64 0)) := by rw [e0]; exact HB0
  clear HB0
  have E0 := hide e0
  clear e0
  have HF1 := hide fun V => waveFinite_any a b la lb V
  have HF2 := hide fun V => waveFinite_any c d lc ld V
  have HN := hide fun x y V => waveNumber_any x y V
  have HO := hide fun r i V => waveOf_any r i V
  have hn1 : ¬ w.heap.size = w.heap.size + 1 + 1 := by omega
  have hn2 : ¬ w.heap.size + 1 + 1 = w.heap.size := by omega
  simp only [vW] at HN HO HF1 HF2 ⊢
  obtain ⟨p, ep⟩ : ∃ x, x = (finB a && finB b) := ⟨_, rfl⟩
  obtain ⟨q, eq⟩ : ∃ x, x = (finB c && finB d) := ⟨_, rfl⟩
  obtain ⟨z, ez⟩ : ∃ x, x = ((FloatKind.f64.format.order c 0 == some .eq) && (FloatKind.f64.format.order d 0 == some .eq)) := ⟨_, rfl⟩
  have EOK : overOk a b c d = (p && q && !z) := by
    rw [ep, eq, ez]
    unfold overOk eq0
    cases finB a <;> cases finB b <;> cases finB c <;> cases finB d <;> rfl
  rw [← ep] at HF1
  rw [← eq] at HF2
  cases p with
  | false =>
    have HZ := hide (over_no (a := a) (b := b) (c := c) (d := d) (by rw [EOK]; rfl))
    have HK : Hid (overOk a b c d = false) := by show _ = _; rw [EOK]; rfl
    clear EOK ep eq ez
    go_enter Try.func15, Try.ntmps15
    go_wp2_with fail
    refine (unhide HF1 _).mono ?_
    rintro e w1 ⟨rfl, hb⟩
    rw [← unhide E0] at hb
    replace HB := hide ((unhide HB).step hb)
    clear hb HF1
    have d0 := (unhide HB).o3.cell (i := 0) rfl
    have d1 := (unhide HB).o3.cell (i := 1) rfl
    have d2 := (unhide HB).o3.frozen
    go_wp2
    have hc := (OwnV.set (unhide HB).o3 0 (.float .f64 0) (by simp)).set 1 (.float .f64 0) (by simp)
    have q0 := hc.cell (i := 0) rfl
    have q1 := hc.cell (i := 1) rfl
    refine bodyPost_ret (v := .tuple #[vW 0 0, .bool false]) (by simp [results, Try.results15, go_sem, vW, q0, q1]) rfl ⟨0, 0, by rw [unhide HK]; rfl, by rw [(unhide HZ).1]; exact fsame.refl _ _, by rw [(unhide HZ).2]; exact fsame.refl _ _, box6_put (unhide HB) _ _⟩
  | true =>
    have hcd : q = true → finB c = true ∧ finB d = true := fun h => by rw [eq] at h; simpa using h
    have HE := hide fun (h : q = true) V => over_any a b c d (hcd h).1 (hcd h).2 lc ld V
    have HOK := hide EOK
    have EZ := hide ez
    clear hcd ep eq la lb lc ld EOK ez
    go_enter Try.func15, Try.ntmps15
    go_wp2_with fail
    refine (unhide HF1 _).mono ?_
    rintro e w1 ⟨rfl, hb⟩
    rw [← unhide E0] at hb
    replace HB := hide ((unhide HB).step hb)
    clear hb HF1
    have c0 := (unhide HB).o1.cell (i := 0) rfl
    have c1 := (unhide HB).o1.cell (i := 1) rfl
    have c2 := (unhide HB).o2.cell (i := 0) rfl
    have c3 := (unhide HB).o2.cell (i := 1) rfl
    go_wp2_with fail
    refine (unhide HF2 _).mono ?_
    rintro e w2 ⟨rfl, hb⟩
    replace HB := hide ((unhide HB).step hb)
    clear hb HF2 c0 c1 c2 c3
    cases q with
    | false =>
      have HZ := hide (over_no (a := a) (b := b) (c := c) (d := d) (by rw [unhide HOK]; rfl))
      have HK : Hid (overOk a b c d = false) := by show _ = _; rw [unhide HOK]; rfl
      have d0 := (unhide HB).o3.cell (i := 0) rfl
      have d1 := (unhide HB).o3.cell (i := 1) rfl
      have d2 := (unhide HB).o3.frozen
      go_wp2
      have hc := (OwnV.set (unhide HB).o3 0 (.float .f64 0) (by simp)).set 1 (.float .f64 0) (by simp)
      have q0 := hc.cell (i := 0) rfl
      have q1 := hc.cell (i := 1) rfl
      refine bodyPost_ret (v := .tuple #[vW 0 0, .bool false]) (by simp [results, Try.results15, go_sem, vW, q0, q1]) rfl ⟨0, 0, by rw [unhide HK]; rfl, by rw [(unhide HZ).1]; exact fsame.refl _ _, by rw [(unhide HZ).2]; exact fsame.refl _ _, box6_put (unhide HB) _ _⟩
    | true =>
      have HS := hide (unhide HE rfl)
      clear HE
      have c0 := (unhide HB).o1.cell (i := 0) rfl
      have c1 := (unhide HB).o1.cell (i := 1) rfl
      have c2 := (unhide HB).o2.cell (i := 0) rfl
      have c3 := (unhide HB).o2.cell (i := 1) rfl
      go_wp2_with fail
      refine (unhide HN _ _ _).mono ?_
      rintro e w3 ⟨rfl, hb⟩
      replace HB := hide ((unhide HB).step hb)
      clear hb c0 c1 c2 c3
      have hz := (unhide EZ).symm
      cases z with
      | true =>
        have HZ := hide (over_no (a := a) (b := b) (c := c) (d := d) (by rw [unhide HOK]; rfl))
        have HK : Hid (overOk a b c d = false) := by show _ = _; rw [unhide HOK]; rfl
        have d0 := (unhide HB).o3.cell (i := 0) rfl
        have d1 := (unhide HB).o3.cell (i := 1) rfl
        have d2 := (unhide HB).o3.frozen
        go_wp2
        have hc := (OwnV.set (unhide HB).o3 0 (.float .f64 0) (by simp)).set 1 (.float .f64 0) (by simp)
        have q0 := hc.cell (i := 0) rfl
        have q1 := hc.cell (i := 1) rfl
        refine bodyPost_ret (v := .tuple #[vW 0 0, .bool false]) (by simp [results, Try.results15, go_sem, vW, q0, q1]) rfl ⟨0, 0, by rw [unhide HK]; rfl, by rw [(unhide HZ).1]; exact fsame.refl _ _, by rw [(unhide HZ).2]; exact fsame.refl _ _, box6_put (unhide HB) _ _⟩
      | false =>
        have HY : Hid (overRe a b c d = ovRe a b c d ∧ overIm a b c d = ovIm a b c d) := by constructor <;> simp [overRe, overIm, unhide HOK]
        have HK : Hid (overOk a b c d = true) := by show _ = _; rw [unhide HOK]; rfl
        have c0 := (unhide HB).o1.cell (i := 0) rfl
        have c1 := (unhide HB).o1.cell (i := 1) rfl
        have c2 := (unhide HB).o2.cell (i := 0) rfl
        have c3 := (unhide HB).o2.cell (i := 1) rfl
        go_wp2
        go_region_held3 (fun w' => w'.cell? ⟨w.heap.size, 0, none⟩ = some (.float .f64 a) ∧ w'.cell? ⟨w.heap.size, 1, none⟩ = some (.float .f64 b) ∧ w'.cell? ⟨w.heap.size + 1, 0, none⟩ = some (.float .f64 c) ∧ w'.cell? ⟨w.heap.size + 1, 1, none⟩ = some (.float .f64 d)) (go_keep) (first | (go_at_call 21; refine (unhide HN _ _ _).mono ?_; rintro e wt ⟨rfl, hb⟩; (first | (have HB' := hide ((unhide HB).step hb)) | (have HB' := hide ((unhide HB).step (below_undrew' hb)))); replace HB := HB'; clear HB' hb; have f0 := (unhide HB).o1.cell (i := 0) rfl; have f1 := (unhide HB).o1.cell (i := 1) rfl; have f2 := (unhide HB).o2.cell (i := 0) rfl; have f3 := (unhide HB).o2.cell (i := 1) rfl) | (go_at_call 28; refine (unhide HS _).mono ?_; rintro e wq ⟨r, i, rfl, hr, hi, n, rfl⟩) | (go_at_call 22; refine (unhide HO _ _ _).mono ?_; rintro e ws ⟨rfl, hb⟩; (first | (have HB' := hide ((unhide HB).step (below_undrewN hb)))); replace HB := HB'; clear HB' hb; have f0 := (unhide HB).o1.cell (i := 0) rfl; have f1 := (unhide HB).o1.cell (i := 1) rfl; have f2 := (unhide HB).o2.cell (i := 0) rfl; have f3 := (unhide HB).o2.cell (i := 1) rfl; have d0 := (unhide HB).o3.cell (i := 0) rfl; have d1 := (unhide HB).o3.cell (i := 1) rfl; have d2 := (unhide HB).o3.frozen))
        all_goals
          go_wp2
          have hc := (OwnV.set (unhide HB).o3 0 (.float .f64 r) (by simp)).set 1 (.float .f64 i) (by simp)
          have q0 := hc.cell (i := 0) rfl
          have q1 := hc.cell (i := 1) rfl
          refine bodyPost_ret (v := .tuple #[vW r i, .bool true]) (by simp [results, Try.results15, go_sem, vW, q0, q1]) rfl ⟨r, i, by rw [unhide HK]; rfl, by rw [(unhide HY).1]; exact hr, by rw [(unhide HY).2]; exact hi, box6_put (unhide HB) _ _⟩

set_option maxHeartbeats 1600000 in
theorem implReply_any (x y : Nat) (w : World) :
    Calls Try.prog 18 #[.float .f64 x, .float .f64 y] w fun e w' => ∃ r s, e = .returned (.tuple #[vW r s, .bool (overOk one64 0 (rpC x) (rpD x y))]) ∧ fsame .f64 r (overRe one64 0 (rpC x) (rpD x y)) ∧ fsame .f64 s (overIm one64 0 (rpC x) (rpD x y)) ∧ Below w.heap.size w w' := by
  have HO := hide (ownV_alloc w #[.float .f64 0, .float .f64 0] 32)
  have HW := hide (Below.alloc1 w (.cells #[.float .f64 0, .float .f64 0] 32))
  go_enter Try.func18, Try.ntmps18
  go_wp2_with (first | (go_at_call 30; refine (product_any x x _).mono ?_; rintro e w' ⟨r1, rfl, h1, -, n1, rfl⟩) | (go_at_call 30; refine (product_any two64 y _).mono ?_; rintro e w' ⟨r2, rfl, h2, -, n2, rfl⟩) | (go_at_call 30; refine (product_any _ x _).mono ?_; rintro e w' ⟨r3, rfl, h3, l3, n3, rfl⟩) | (refine wpList_float64 rfl .sub _ _ _ _ rfl rfl one64 _ rfl rfl ?_; intro r4 n4 h4 l4))
  have g3 : fsame .f64 r3 (rpD x y) := fop_to h3 h2 (fsame.refl _ _)
  have g4 : fsame .f64 r4 (rpC x) := fop_to h4 (fsame.refl _ _) h1
  obtain ⟨q1, q2, q3⟩ := over_same (fsame.refl .f64 one64) (fsame.refl .f64 0) g4 g3
  have HC := hide fun V => implOver_any one64 0 r4 r3 (by decide) (by decide) l4 l3 V
  rw [q1, q2, q3] at HC
  obtain ⟨ok, eok⟩ : ∃ b, b = overOk one64 0 (rpC x) (rpD x y) := ⟨_, rfl⟩
  rw [← eok] at HC
  have EOK := hide eok
  clear eok
  unfold vW at HC
  refine (unhide HC _).mono ?_
  rintro e w1 ⟨r, s, rfl, hr, hs, hb⟩
  have HO1 := hide (OwnV.step (unhide HO) (below_undrewN hb))
  replace HW := hide (Below.step (unhide HW) (below_undrewN hb))
  have c0 := (unhide HO1).cell (i := 0) rfl
  have c1 := (unhide HO1).cell (i := 1) rfl
  have f0 := (unhide HO1).frozen
  clear hb HC HO h1 h2 h3 h4 g3 g4 q1 q2 q3
  go_wp2
  have hc := (OwnV.set (unhide HO1) 0 (.float .f64 r) (by simp)).set 1 (.float .f64 s) (by simp)
  have k0 := hc.cell (i := 0) rfl
  have k1 := hc.cell (i := 1) rfl
  refine bodyPost_ret (v := .tuple #[vW r s, .bool ok]) (by simp [results, Try.results18, go_sem, vW, k0, k1]) rfl ⟨r, s, by rw [unhide EOK], hr, hs, ?_⟩
  exact ((unhide HW).setCell (p := ⟨w.heap.size, 0, none⟩) (Nat.le_refl _) _).setCell (p := ⟨w.heap.size, 1, none⟩) (Nat.le_refl _) _

end Go.Proofs.Ytokmkhflfbkgjaa
