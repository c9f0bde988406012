/- Contract of the program's Squat. Written by wip/mktid.py. -/
import Derived.Test.YtglehiakikhlaaaTdD
import Derived.Test.YtglehiakikhlaaaFlI
namespace Go.Proofs.Ytglehiakikhlaaa
open Go.RowKit

attribute [local go_sem] run_store_float

theorem run_idx4 (V : World) (s b wd d k : Nat) (hk : k < 4) : (Instr.index 88 (.agg #[.float .f64 s, .float .f64 b, .float .f64 wd, .float .f64 d]) (.int .i64 (k : Int))).run Try.prog V = .ok (.float .f64 (sq4 s b wd d k)) V := by
  have h := Try.underlying88
  have hk' : k = 0 ∨ k = 1 ∨ k = 2 ∨ k = 3 := by omega
  rcases hk' with rfl | rfl | rfl | rfl <;> simp [Instr.index, run_underlying h, asIntOf, go_sem, sq4]

set_option maxRecDepth 10000 in
set_option maxHeartbeats 8000000 in
theorem implSquat_any (s b wd d : Nat) (ls : s < 18446744073709551616) (lb : b < 18446744073709551616) (lw : wd < 18446744073709551616) (ld : d < 18446744073709551616) (w : World) :
    Calls Try.prog 20 #[.float .f64 s, .float .f64 b, .float .f64 wd, .float .f64 d] w fun e w' => ∃ r, e = .returned (.tuple #[.float .f64 r, .bool (squatOk s b wd d)]) ∧ fsame .f64 r (squatOf s b wd d) ∧ Below w.heap.size w w' := by
  obtain ⟨ok, eok⟩ : ∃ z, z = squatOk s b wd d := ⟨_, rfl⟩
  rw [← eok]
  have EOK := hide eok
  clear eok
  have HNO : Hid (∀ k, k < 4 → okF (sq4 s b wd d k) = false → ok = false ∧ squatOf s b wd d = 0) := fun k hk h => by
    have e := squat_no hk h
    exact ⟨by rw [unhide EOK, e], by rw [squatOf, if_neg (by rw [e]; simp)]⟩
  have HF0 := hide fun V => isFinite_any s ls V
  have HF1 := hide fun V => isFinite_any b lb V
  have HF2 := hide fun V => isFinite_any wd lw V
  have HF3 := hide fun V => isFinite_any d ld V
  clear ls lb lw ld
  go_enter Try.func20, Try.ntmps20
  go_wp2
  go_loopg [18] 4 (fun g i wr => ∃ k : Nat, k ≤ 4 ∧ g = 4 - k ∧ i = .int .i64 k ∧ w = wr ∧ ∀ j, j < k → okF (sq4 s b wd d j) = true)
  case atStart => exact ⟨0, Nat.zero_le _, rfl, rfl, rfl, fun j hj => by omega⟩
  case round =>
    obtain ⟨k, hk, rfl, rfl, rfl, hall⟩ := hrel
    have hk' : k = 0 ∨ k = 1 ∨ k = 2 ∨ k = 3 ∨ k = 4 := by omega
    have HA := hide hall
    clear hall hk
    rcases hk' with rfl | rfl | rfl | rfl | rfl
    · have HN : Hid (okF s = false → ok = false ∧ squatOf s b wd d = 0) := unhide HNO 0 (by omega)
      have HY : Hid (okF s = true → ∀ j, j < 0 + 1 → okF (sq4 s b wd d j) = true) := fun h j hj => by
        by_cases e : j = 0
        · rw [e]; exact h
        · exact unhide HA j (by omega)
      have HF := HF0
      have hidx : ∀ V, (Instr.index 88 (.agg #[.float .f64 s, .float .f64 b, .float .f64 wd, .float .f64 d]) (.int .i64 0)).run Try.prog V = .ok (.float .f64 s) V := fun V => run_idx4 V s b wd d 0 (by omega)
      clear HF0 HF1 HF2 HF3 HNO HA
      unfold okF at HN HY
      cases h1 : finB s with
      | false =>
        rw [h1] at HF
        obtain ⟨z1, z2⟩ := unhide HN (by rw [h1]; rfl)
        subst z1
        go_wp2_with (go_at_call 56; refine (unhide HF _).mono ?_; rintro e w' ⟨rfl, rfl⟩)
        refine bodyPost_ret (v := .tuple #[.float .f64 0, .bool false]) (by simp [results, Try.results20, go_sem]) rfl ⟨0, rfl, by rw [z2]; exact fsame.refl _ _, Below.refl _ _⟩
      | true =>
        rw [h1] at HF
        cases h2 : (FloatKind.f64.format.order s 0 == some .lt) with
        | true =>
          obtain ⟨z1, z2⟩ := unhide HN (by rw [h1, h2]; rfl)
          subst z1
          go_wp2_with (go_at_call 56; refine (unhide HF _).mono ?_; rintro e w' ⟨rfl, rfl⟩)
          refine bodyPost_ret (v := .tuple #[.float .f64 0, .bool false]) (by simp [results, Try.results20, go_sem]) rfl ⟨0, rfl, by rw [z2]; exact fsame.refl _ _, Below.refl _ _⟩
        | false =>
          go_wp2_with (go_at_call 56; refine (unhide HF _).mono ?_; rintro e w' ⟨rfl, rfl⟩)
          go_roundg (4 - (0 + 1))
          case measure => omega
          case rel => exact ⟨0 + 1, by omega, rfl, by go_num, rfl, unhide HY (by rw [h1, h2]; rfl)⟩
    · have HN : Hid (okF b = false → ok = false ∧ squatOf s b wd d = 0) := unhide HNO 1 (by omega)
      have HY : Hid (okF b = true → ∀ j, j < 1 + 1 → okF (sq4 s b wd d j) = true) := fun h j hj => by
        by_cases e : j = 1
        · rw [e]; exact h
        · exact unhide HA j (by omega)
      have HF := HF1
      have hidx : ∀ V, (Instr.index 88 (.agg #[.float .f64 s, .float .f64 b, .float .f64 wd, .float .f64 d]) (.int .i64 1)).run Try.prog V = .ok (.float .f64 b) V := fun V => run_idx4 V s b wd d 1 (by omega)
      clear HF0 HF1 HF2 HF3 HNO HA
      unfold okF at HN HY
      cases h1 : finB b with
      | false =>
        rw [h1] at HF
        obtain ⟨z1, z2⟩ := unhide HN (by rw [h1]; rfl)
        subst z1
        go_wp2_with (go_at_call 56; refine (unhide HF _).mono ?_; rintro e w' ⟨rfl, rfl⟩)
        refine bodyPost_ret (v := .tuple #[.float .f64 0, .bool false]) (by simp [results, Try.results20, go_sem]) rfl ⟨0, rfl, by rw [z2]; exact fsame.refl _ _, Below.refl _ _⟩
      | true =>
        rw [h1] at HF
        cases h2 : (FloatKind.f64.format.order b 0 == some .lt) with
        | true =>
          obtain ⟨z1, z2⟩ := unhide HN (by rw [h1, h2]; rfl)
          subst z1
          go_wp2_with (go_at_call 56; refine (unhide HF _).mono ?_; rintro e w' ⟨rfl, rfl⟩)
          refine bodyPost_ret (v := .tuple #[.float .f64 0, .bool false]) (by simp [results, Try.results20, go_sem]) rfl ⟨0, rfl, by rw [z2]; exact fsame.refl _ _, Below.refl _ _⟩
        | false =>
          go_wp2_with (go_at_call 56; refine (unhide HF _).mono ?_; rintro e w' ⟨rfl, rfl⟩)
          go_roundg (4 - (1 + 1))
          case measure => omega
          case rel => exact ⟨1 + 1, by omega, rfl, by go_num, rfl, unhide HY (by rw [h1, h2]; rfl)⟩
    · have HN : Hid (okF wd = false → ok = false ∧ squatOf s b wd d = 0) := unhide HNO 2 (by omega)
      have HY : Hid (okF wd = true → ∀ j, j < 2 + 1 → okF (sq4 s b wd d j) = true) := fun h j hj => by
        by_cases e : j = 2
        · rw [e]; exact h
        · exact unhide HA j (by omega)
      have HF := HF2
      have hidx : ∀ V, (Instr.index 88 (.agg #[.float .f64 s, .float .f64 b, .float .f64 wd, .float .f64 d]) (.int .i64 2)).run Try.prog V = .ok (.float .f64 wd) V := fun V => run_idx4 V s b wd d 2 (by omega)
      clear HF0 HF1 HF2 HF3 HNO HA
      unfold okF at HN HY
      cases h1 : finB wd with
      | false =>
        rw [h1] at HF
        obtain ⟨z1, z2⟩ := unhide HN (by rw [h1]; rfl)
        subst z1
        go_wp2_with (go_at_call 56; refine (unhide HF _).mono ?_; rintro e w' ⟨rfl, rfl⟩)
        refine bodyPost_ret (v := .tuple #[.float .f64 0, .bool false]) (by simp [results, Try.results20, go_sem]) rfl ⟨0, rfl, by rw [z2]; exact fsame.refl _ _, Below.refl _ _⟩
      | true =>
        rw [h1] at HF
        cases h2 : (FloatKind.f64.format.order wd 0 == some .lt) with
        | true =>
          obtain ⟨z1, z2⟩ := unhide HN (by rw [h1, h2]; rfl)
          subst z1
          go_wp2_with (go_at_call 56; refine (unhide HF _).mono ?_; rintro e w' ⟨rfl, rfl⟩)
          refine bodyPost_ret (v := .tuple #[.float .f64 0, .bool false]) (by simp [results, Try.results20, go_sem]) rfl ⟨0, rfl, by rw [z2]; exact fsame.refl _ _, Below.refl _ _⟩
        | false =>
          go_wp2_with (go_at_call 56; refine (unhide HF _).mono ?_; rintro e w' ⟨rfl, rfl⟩)
          go_roundg (4 - (2 + 1))
          case measure => omega
          case rel => exact ⟨2 + 1, by omega, rfl, by go_num, rfl, unhide HY (by rw [h1, h2]; rfl)⟩
    · have HN : Hid (okF d = false → ok = false ∧ squatOf s b wd d = 0) := unhide HNO 3 (by omega)
      have HY : Hid (okF d = true → ∀ j, j < 3 + 1 → okF (sq4 s b wd d j) = true) := fun h j hj => by
        by_cases e : j = 3
        · rw [e]; exact h
        · exact unhide HA j (by omega)
      have HF := HF3
      have hidx : ∀ V, (Instr.index 88 (.agg #[.float .f64 s, .float .f64 b, .float .f64 wd, .float .f64 d]) (.int .i64 3)).run Try.prog V = .ok (.float .f64 d) V := fun V => run_idx4 V s b wd d 3 (by omega)
      clear HF0 HF1 HF2 HF3 HNO HA
      unfold okF at HN HY
      cases h1 : finB d with
      | false =>
        rw [h1] at HF
        obtain ⟨z1, z2⟩ := unhide HN (by rw [h1]; rfl)
        subst z1
        go_wp2_with (go_at_call 56; refine (unhide HF _).mono ?_; rintro e w' ⟨rfl, rfl⟩)
        refine bodyPost_ret (v := .tuple #[.float .f64 0, .bool false]) (by simp [results, Try.results20, go_sem]) rfl ⟨0, rfl, by rw [z2]; exact fsame.refl _ _, Below.refl _ _⟩
      | true =>
        rw [h1] at HF
        cases h2 : (FloatKind.f64.format.order d 0 == some .lt) with
        | true =>
          obtain ⟨z1, z2⟩ := unhide HN (by rw [h1, h2]; rfl)
          subst z1
          go_wp2_with (go_at_call 56; refine (unhide HF _).mono ?_; rintro e w' ⟨rfl, rfl⟩)
          refine bodyPost_ret (v := .tuple #[.float .f64 0, .bool false]) (by simp [results, Try.results20, go_sem]) rfl ⟨0, rfl, by rw [z2]; exact fsame.refl _ _, Below.refl _ _⟩
        | false =>
          go_wp2_with (go_at_call 56; refine (unhide HF _).mono ?_; rintro e w' ⟨rfl, rfl⟩)
          go_roundg (4 - (3 + 1))
          case measure => omega
          case rel => exact ⟨3 + 1, by omega, rfl, by go_num, rfl, unhide HY (by rw [h1, h2]; rfl)⟩
    · have o1 := unhide HA 0 (by omega)
      have o2 := unhide HA 1 (by omega)
      have o3 := unhide HA 2 (by omega)
      have o4 := unhide HA 3 (by omega)
      have e5 : ok = !(FloatKind.f64.format.order d 0 == some .eq) := by
        rw [unhide EOK, squatOk, show okF s = true from o1, show okF b = true from o2, show okF wd = true from o3, show okF d = true from o4]
        simp
      have ESQ : Hid (ok = false → squatOf s b wd d = 0) := fun h => by rw [squatOf, if_neg (by rw [← unhide EOK, h]; simp)]
      have EST : Hid (ok = true → squatOf s b wd d = fop .quo .f64 (fop .mul .f64 (fop .mul .f64 (fop .mul .f64 s s) b) (fop .add .f64 one64 (fop .quo .f64 wd d))) hundred64) := fun h => by rw [squatOf, if_pos (by rw [← unhide EOK, h])]
      clear o1 o2 o3 o4 HA HNO HF0 HF1 HF2 HF3
      cases h5 : (FloatKind.f64.format.order d 0 == some .eq) with
      | true =>
        have z1 : ok = false := by rw [e5, h5]; rfl
        clear e5
        subst z1
        go_wp2
        refine bodyPost_ret (v := .tuple #[.float .f64 0, .bool false]) (by simp [results, Try.results20, go_sem]) rfl ⟨0, rfl, by rw [unhide ESQ (by simp)]; exact fsame.refl _ _, Below.refl _ _⟩
      | false =>
        have z1 : ok = true := by rw [e5, h5]; rfl
        clear e5
        subst z1
        go_wp2_with (first | (go_at_call 57; refine (product_any _ _ _).mono ?_; rintro e w' ⟨r, rfl, hr, -, n, rfl⟩) | (refine wpList_float rfl _ _ _ _ _ rfl rfl .f64 _ _ rfl rfl ?_; intro r n hr))
        rename_i r1 h1 n1 r2 h2 n2 r3 n3 h3 r4 n4 h4 r5 h6 n5
        refine bodyPost_ret (v := .tuple #[.float .f64 r, .bool true]) (by simp [results, Try.results20, go_sem]) rfl ⟨r, rfl, ?_, below_drewN (Below.refl _ _) _⟩
        rw [unhide EST (by simp)]
        exact fop_to hr (fop_to h6 (fop_to h2 h1 (fsame.refl _ _)) (fop_to h4 (fsame.refl _ _) h3)) (fsame.refl _ _)

end Go.Proofs.Ytglehiakikhlaaa
