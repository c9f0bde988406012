/- Contract of the program's Energy. -/
import Derived.Test.YteohkabenbaaaaaFlI2
import Derived.Test.YteohkabenbaaaaaFlN
import Derived.Deep.RegionHeld3
import Derived.Deep.DeepCutAuto
namespace Go.Proofs.Yteohkabenbaaaaa
open Go.RowKit

attribute [local go_sem] run_store_float run_store_complex unary_neg_float

/-- The operation as a function of world and operands: for a walk by rewriting. -/
theorem run_float_fun (op : BinOp) (hop : op = .add ∨ op = .sub ∨ op = .mul ∨ op = .quo) (t : TypeId) (k : FloatKind) :
    ∃ (F M : World → Nat → Nat → Nat), ∀ V x y, (binOp op t (.float k x) (.float k y)).run Try.prog V = .ok (.float k (F V x y)) (V.drewN (M V x y)) ∧ fsame k (F V x y) (fop op k x y) :=
  ⟨fun V x y => (run_float_any (P := Try.prog) V op hop t k x y).choose, fun V x y => (run_float_any (P := Try.prog) V op hop t k x y).choose_spec.choose, fun V x y => (run_float_any (P := Try.prog) V op hop t k x y).choose_spec.choose_spec⟩

set_option linter.unusedSimpArgs false in
set_option maxRecDepth 10000 in
set_option maxHeartbeats 16000000 in
theorem implEnergy_any (v v' : Value) (R : List F2) (H : List Nat) (wd : Nat) (w : World) (h : RW w v R) (h' : FlIn w v' H) :
    Calls Try.prog 34 #[v, v', .float .f64 wd] w fun e w' => ∃ r, e = .returned (.tuple #[.float .f64 r, .bool (enOk R H)]) ∧ fsame .f64 r (energyOf R H wd) ∧ Below w.heap.size w w' := by
  obtain ⟨ao, cap, rfl, hl, hm, hc⟩ := h
  obtain ⟨ao', cap', rfl, hl', hm', hc'⟩ := h'
  unfold maxLen at hm hm'
  have HC := hide hc
  have HC' := hide hc'
  clear hc hc'
  cases hok : enOk R H with
  | false =>
    have HF : Hid (energyOf R H wd = 0) := by show _ = _; simp [energyOf, hok]
    by_cases hlen : R.length = H.length
    · have h60 : (60 : Int) < R.length := by simp [enOk, hlen] at hok; omega
      have e1 : ((R.length : Int) != (H.length : Int)) = false := by rw [hlen]; simp
      clear hok hlen
      go_enter Try.func34, Try.ntmps34
      go_wp2
      refine bodyPost_ret (v := .tuple #[.float .f64 0, .bool false]) (by simp [results, Try.results34, go_sem]) rfl ⟨0, rfl, by rw [unhide HF]; exact fsame.refl _ _, Below.refl _ _⟩
    · have e1 : ((R.length : Int) != (H.length : Int)) = true := by simp; omega
      clear hok
      go_enter Try.func34, Try.ntmps34
      go_wp2
      refine bodyPost_ret (v := .tuple #[.float .f64 0, .bool false]) (by simp [results, Try.results34, go_sem]) rfl ⟨0, rfl, by rw [unhide HF]; exact fsame.refl _ _, Below.refl _ _⟩
  | true =>
    have HF : Hid (energyOf R H wd = enTo R H wd R.length) := by show _ = _; rw [energyOf, if_pos hok]
    have hlen : R.length = H.length := by simp [enOk] at hok; exact hok.1
    have h60 : (R.length : Int) ≤ 60 := by simp [enOk] at hok; omega
    have HLN := hide hlen
    have e1 : ((R.length : Int) != (H.length : Int)) = false := by rw [hlen]; simp
    clear hok hlen
    go_enter Try.func34, Try.ntmps34
    go_wp2
    go_loopg [8, 24] R.length (fun g sv i wr => ∃ k : Nat, k ≤ R.length ∧ g = R.length - k ∧ i = .int .i64 k ∧ ∃ s, sv = .float .f64 s ∧ fsame .f64 s (enTo R H wd k) ∧ Hid (Below w.heap.size w wr))
    case atStart => exact ⟨0, Nat.zero_le _, rfl, rfl, 0, rfl, fsame.refl _ _, Below.refl _ _⟩
    case round =>
      obtain ⟨k, hk, rfl, rfl, s, rfl, hs, HW⟩ := hrel
      by_cases hkn : k < R.length
      · obtain ⟨b, o, x, y, rfl, hx, hy, EX⟩ := recWAt (unhide HC) hkn
        obtain ⟨b', o', rfl, hh⟩ := unhide HC' k (by rw [← unhide HLN]; exact hkn)
        have ES : Hid (enTo R H wd (k + 1) = enStep wd (enTo R H wd k) (x, y) (H.getD k 0)) := by show _ = _; rw [enTo, unhide EX]
        have g0 := ((unhide HW).cell (lt_of_cell hx)).trans hx
        have g1 := ((unhide HW).cell (lt_of_cell hy)).trans hy
        have g2 := ((unhide HW).cell (lt_of_cell hh)).trans hh
        have hki : (k : Int) < R.length := by omega
        have hki' : (k : Int) < H.length := by rw [← unhide HLN]; omega
        clear hx hy hh EX
        generalize H.getD k 0 = ht at *
        generalize enTo R H wd k = sk at *
        have HW1 := hide (Below.step (unhide HW) (Below.alloc1 wr (.cells #[.float .f64 x, .float .f64 y] 32)))
        have hB := ownV_alloc wr #[.float .f64 x, .float .f64 y] 32
        have c0 := hB.cell (i := 0) rfl
        have c1 := hB.cell (i := 1) rfl
        have g3 : (wr.alloc (.cells #[.float .f64 x, .float .f64 y] 32)).cell? ⟨b', o' + k, none⟩ = some (.float .f64 ht) := ((Below.alloc1 wr (.cells #[.float .f64 x, .float .f64 y] 32)).cell (lt_of_cell g2)).trans g2
        clear hB
        go_wp2
        obtain ⟨V0, e0⟩ : ∃ z, z = wr.alloc (.cells #[.float .f64 x, .float .f64 y] 32) := ⟨_, rfl⟩
        rw [← e0] at HW1 c0 c1 g3 ⊢
        clear e0 g0 g1 g2 HW
        obtain ⟨F, M, hF⟩ := run_float_fun .add (by simp) 30 .f64
        have hrun := fun V a b => (hF V a b).1
        have HFS := hide fun V a b => (hF V a b).2
        clear hF
        go_cut [11] (fun sq wx => ∃ q n, sq = .float .f64 q ∧ fsame .f64 q (fop .add .f64 (fop .mul .f64 x x) (fop .mul .f64 y y)) ∧ wx = V0.drewN n)
        case first =>
          refine wp_region_held_drew (S := fun w' => w'.cell? ⟨wr.heap.size, 0, none⟩ = some (.float .f64 x) ∧ w'.cell? ⟨wr.heap.size, 1, none⟩ = some (.float .f64 y)) (by kernel_rfl) ⟨c0, c1⟩ (fun hHeld => ?_)
          refine wpAnyH_take (i := 0) (v := ?_) rfl (by kernel_rfl) (by kernel_rfl) (by kernel_rfl) (fun _ _ _ h => h) (Or.inl ⟨by rfl, ?_⟩) (by assumption) ?_
          rotate_left
          · intro wy hSw
            obtain ⟨hS0, hS1⟩ := hSw
            go_simp
            try with_reducible rfl
          simp only [Act.put, List.setIfInBounds_toArray, List.set_cons_zero, List.set_cons_succ]
          refine wpAnyH_take (i := 1) (v := ?_) rfl (by kernel_rfl) (by kernel_rfl) (by kernel_rfl) (fun _ _ _ h => h) (Or.inl ⟨by rfl, ?_⟩) (by assumption) ?_
          rotate_left
          · intro wy hSw
            obtain ⟨hS0, hS1⟩ := hSw
            go_simp
            try with_reducible rfl
          simp only [Act.put, List.setIfInBounds_toArray, List.set_cons_zero, List.set_cons_succ]
          refine wpAnyH_take (i := 2) (v := ?_) rfl (by kernel_rfl) (by kernel_rfl) (by kernel_rfl) (fun _ _ _ h => h) (Or.inl ⟨by rfl, ?_⟩) (by assumption) ?_
          rotate_left
          · intro wy hSw
            obtain ⟨hS0, hS1⟩ := hSw
            go_simp
            try with_reducible rfl
          simp only [Act.put, List.setIfInBounds_toArray, List.set_cons_zero, List.set_cons_succ]
          refine wpAnyH_take (i := 3) (v := ?_) rfl (by kernel_rfl) (by kernel_rfl) (by kernel_rfl) (fun _ _ _ h => h) (Or.inl ⟨by rfl, ?_⟩) (by assumption) ?_
          rotate_left
          · intro wy hSw
            obtain ⟨hS0, hS1⟩ := hSw
            go_simp
            try with_reducible rfl
          simp only [Act.put, List.setIfInBounds_toArray, List.set_cons_zero, List.set_cons_succ]
          refine wpAnyH_take (i := 5) (v := ?_) rfl (by kernel_rfl) (by kernel_rfl) (by kernel_rfl) (fun _ _ _ h => h) (Or.inl ⟨by rfl, ?_⟩) (by assumption) ?_
          rotate_left
          · intro wy hSw
            obtain ⟨hS0, hS1⟩ := hSw
            go_simp
            try with_reducible rfl
          simp only [Act.put, List.setIfInBounds_toArray, List.set_cons_zero, List.set_cons_succ]
          refine wpAnyH_take (i := 6) (v := ?_) rfl (by kernel_rfl) (by kernel_rfl) (by kernel_rfl) (fun _ _ _ h => h) (Or.inl ⟨by rfl, ?_⟩) (by assumption) ?_
          rotate_left
          · intro wy hSw
            obtain ⟨hS0, hS1⟩ := hSw
            go_simp
            try with_reducible rfl
          simp only [Act.put, List.setIfInBounds_toArray, List.set_cons_zero, List.set_cons_succ]
          refine wpAnyH_take (i := 7) (v := ?_) rfl (by kernel_rfl) (by kernel_rfl) (by kernel_rfl) (fun _ _ _ h => h) (Or.inl ⟨by rfl, ?_⟩) (by assumption) ?_
          rotate_left
          · intro wy hSw
            obtain ⟨hS0, hS1⟩ := hSw
            go_simp
            try with_reducible rfl
          simp only [Act.put, List.setIfInBounds_toArray, List.set_cons_zero, List.set_cons_succ]
          refine wpAnyH_take (i := 8) (v := ?_) rfl (by kernel_rfl) (by kernel_rfl) (by kernel_rfl) (fun _ _ _ h => h) (Or.inl ⟨by rfl, ?_⟩) (by assumption) ?_
          rotate_left
          · intro wy hSw
            obtain ⟨hS0, hS1⟩ := hSw
            go_simp
            try with_reducible rfl
          simp only [Act.put, List.setIfInBounds_toArray, List.set_cons_zero, List.set_cons_succ]
          refine wpAnyH_ready (rs := [4]) (by kernel_rfl) (by simp) ?_
          refine AllReadyH.cons rfl (fun K hK => ?_) AllReadyH.nil
          go_simp
          refine (product_any x x _).mono ?_
          rintro e wp ⟨r1, rfl, h1, -, n1, rfl⟩
          refine hK.out _ _ ⟨c0, c1⟩ (fun hHeld => ?_)
          clear hK K
          try simp only [Act.put, List.setIfInBounds_toArray, List.set_cons_zero, List.set_cons_succ]
          refine wpAnyH_ready (rs := [9]) (by kernel_rfl) (by simp) ?_
          refine AllReadyH.cons rfl (fun K hK => ?_) AllReadyH.nil
          go_simp
          refine (product_any y y _).mono ?_
          rintro e wp ⟨r2, rfl, h2, -, n2, rfl⟩
          refine hK.out _ _ ⟨c0, c1⟩ (fun hHeld => ?_)
          clear hK K
          try simp only [Act.put, List.setIfInBounds_toArray, List.set_cons_zero, List.set_cons_succ]
          refine wpAnyH_ready (rs := [10]) (by kernel_rfl) (by simp) ?_
          refine AllReadyH.cons rfl (fun K hK => ?_) AllReadyH.nil
          go_simp
          refine hK.out _ _ ⟨c0, c1⟩ (fun hHeld => ?_)
          clear hK K
          try simp only [Act.put, List.setIfInBounds_toArray, List.set_cons_zero, List.set_cons_succ]
          refine wpAnyH_ready (rs := [11]) (by kernel_rfl) (by simp) ?_
          refine AllReadyH.cons rfl (fun K hK => ?_) AllReadyH.nil
          go_simp
          refine hK.out _ _ ⟨c0, c1⟩ (fun hHeld => ?_)
          clear hK K
          try simp only [Act.put, List.setIfInBounds_toArray, List.set_cons_zero, List.set_cons_succ]
          refine wpAnyH_done (by kernel_rfl) ?_ _
          go_wp2_with fail
          go_meet
          exact ⟨_, _, rfl, fop_to (unhide HFS _ _ _) h1 h2, rfl⟩
        case rest =>
        obtain ⟨q, n, rfl, hq, hwx⟩ := hcut
        clear hrun HFS c0 c1
        subst hwx
        go_wp2_with (first | (go_at_call 74; refine (product_any q ht _).mono ?_; rintro e wp ⟨r4, rfl, h4, -, n4, rfl⟩) | (go_at_call 74; refine (product_any _ wd _).mono ?_; rintro e wp ⟨r5, rfl, h5, -, n5, rfl⟩) | (refine wpList_float rfl .add _ _ _ _ rfl rfl .f64 s _ rfl rfl ?_; intro r6 n6 h6))
        go_roundg (R.length - (k + 1))
        case measure => omega
        case rel => exact ⟨k + 1, by omega, rfl, by go_num, r6, rfl, by rw [unhide ES]; exact fop_to h6 hs (fop_to h5 (fop_to h4 hq (fsame.refl _ _)) (fsame.refl _ _)), below_drewN (unhide HW1) _⟩
      · have hkk : k = R.length := by omega
        subst hkk
        go_wp2
        refine bodyPost_ret (v := .tuple #[.float .f64 s, .bool true]) (by simp [results, Try.results34, go_sem]) rfl ⟨s, rfl, by rw [unhide HF]; exact hs, unhide HW⟩

end Go.Proofs.Yteohkabenbaaaaa
