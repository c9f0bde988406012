/- Contract of the specification's Squat. -/
import Derived.Test.YtglehiakikhlaaaFlH
import Derived.Test.YtglehiakikhlaaaFlJ
namespace Go.Proofs.Ytglehiakikhlaaa
open Go.RowKit

attribute [local go_sem] run_store_float

def okF (x : Nat) : Bool := finB x && !(FloatKind.f64.format.order x 0 == some .lt)
abbrev hundred64 : Nat := 4636737291354636288
def squatOk (s b wd d : Nat) : Bool := okF s && okF b && okF wd && okF d && !(FloatKind.f64.format.order d 0 == some .eq)
def squatOf (s b wd d : Nat) : Nat := if squatOk s b wd d = true then fop .quo .f64 (fop .mul .f64 (fop .mul .f64 (fop .mul .f64 s s) b) (fop .add .f64 one64 (fop .quo .f64 wd d))) hundred64 else 0

def sq4 (s b wd d : Nat) : Nat → Nat
  | 0 => s
  | 1 => b
  | 2 => wd
  | _ => d

theorem squat_no {s b wd d k : Nat} (hk : k < 4) (h : okF (sq4 s b wd d k) = false) : squatOk s b wd d = false := by
  unfold squatOk
  match k, hk with
  | 0, _ => rw [show okF s = false from h]; simp
  | 1, _ => rw [show okF b = false from h]; simp
  | 2, _ => rw [show okF wd = false from h]; simp
  | 3, _ => rw [show okF d = false from h]; simp

set_option maxRecDepth 10000 in
set_option maxHeartbeats 4000000 in
theorem specSquat_any (s b wd d : Nat) (w : World) :
    Calls Try.prog 38 #[.float .f64 s, .float .f64 b, .float .f64 wd, .float .f64 d] w fun e w' => ∃ r, e = .returned (.tuple #[.float .f64 r, .bool (squatOk s b wd d)]) ∧ fsame .f64 r (squatOf s b wd d) ∧ Below w.heap.size w w' := by
  have hB := ownV_alloc w #[.float .f64 s, .float .f64 b, .float .f64 wd, .float .f64 d] 25
  have HO : Hid (∀ k, k < 4 → (w.alloc (.cells #[.float .f64 s, .float .f64 b, .float .f64 wd, .float .f64 d] 25)).cell? ⟨w.heap.size, k, none⟩ = some (.float .f64 (sq4 s b wd d k))) := fun k hk => by
    match k, hk with
    | 0, _ => exact hB.cell (i := 0) rfl
    | 1, _ => exact hB.cell (i := 1) rfl
    | 2, _ => exact hB.cell (i := 2) rfl
    | 3, _ => exact hB.cell (i := 3) rfl
  have HW0 := hide (Below.alloc1 w (.cells #[.float .f64 s, .float .f64 b, .float .f64 wd, .float .f64 d] 25))
  clear hB
  obtain ⟨ok, eok⟩ : ∃ z, z = squatOk s b wd d := ⟨_, rfl⟩
  rw [← eok]
  have EOK := hide eok
  clear eok
  have HNO : Hid (∀ k, k < 4 → okF (sq4 s b wd d k) = false → ok = false ∧ squatOf s b wd d = 0) := fun k hk h => by
    have e := squat_no hk h
    exact ⟨by rw [unhide EOK, e], by rw [squatOf, if_neg (by rw [e]; simp)]⟩
  go_enter Try.func38, Try.ntmps38
  go_wp2
  obtain ⟨W0, e0⟩ : ∃ z, z = w.alloc (.cells #[.float .f64 s, .float .f64 b, .float .f64 wd, .float .f64 d] 25) := ⟨_, rfl⟩
  rw [← e0] at HO HW0 ⊢
  clear e0
  go_loopg [11] 4 (fun g i wr => ∃ k : Nat, k ≤ 4 ∧ g = 4 - k ∧ i = .int .i64 k ∧ (∃ q, wr = W0.drewN q) ∧ ∀ j, j < k → okF (sq4 s b wd d j) = true)
  case atStart => exact ⟨0, Nat.zero_le _, rfl, rfl, ⟨0, rfl⟩, fun j hj => by omega⟩
  case round =>
    obtain ⟨k, hk, rfl, rfl, ⟨q, hq⟩, hall⟩ := hrel
    have HA := hide hall
    have HQ := hide hq
    by_cases hk4 : k < 4
    · have c0 : wr.cell? ⟨w.heap.size, k, none⟩ = some (.float .f64 (sq4 s b wd d k)) := by rw [hq]; exact unhide HO k hk4
      have HF := hide fun V => l4Finite_any (sq4 s b wd d k) V
      have HN := hide (unhide HNO k hk4)
      have HY : Hid (okF (sq4 s b wd d k) = true → ∀ j, j < k + 1 → okF (sq4 s b wd d j) = true) := fun h j hj => by
        by_cases e : j = k
        · rw [e]; exact h
        · exact unhide HA j (by omega)
      unfold okF at HN HY
      clear hq hall
      generalize sq4 s b wd d k = x at *
      have hki : (k : Int) < 4 := by omega
      cases h1 : finB x with
      | false =>
        rw [h1] at HF
        obtain ⟨z1, z2⟩ := unhide HN (by rw [h1]; rfl)
        subst z1
        go_wp2_with (go_at_call 65; refine (unhide HF _).mono ?_; rintro e w' ⟨rfl, n, rfl⟩)
        refine bodyPost_ret (v := .tuple #[.float .f64 0, .bool false]) (by simp [results, Try.results38, go_sem]) rfl ⟨0, rfl, by rw [z2]; exact fsame.refl _ _, ?_⟩
        rw [unhide HQ]
        exact below_drewN (below_drewN (unhide HW0) _) _
      | true =>
        rw [h1] at HF
        cases h2 : (FloatKind.f64.format.order x 0 == some .lt) with
        | true =>
          obtain ⟨z1, z2⟩ := unhide HN (by rw [h1, h2]; rfl)
          subst z1
          go_wp2_with (go_at_call 65; refine (unhide HF _).mono ?_; rintro e w' ⟨rfl, n, rfl⟩)
          refine bodyPost_ret (v := .tuple #[.float .f64 0, .bool false]) (by simp [results, Try.results38, go_sem]) rfl ⟨0, rfl, by rw [z2]; exact fsame.refl _ _, ?_⟩
          rw [unhide HQ]
          exact below_drewN (below_drewN (unhide HW0) _) _
        | false =>
          go_wp2_with (go_at_call 65; refine (unhide HF _).mono ?_; rintro e w' ⟨rfl, n, rfl⟩)
          go_roundg (4 - (k + 1))
          case measure => omega
          case rel => exact ⟨k + 1, by omega, rfl, by go_num, ⟨_, by rw [unhide HQ]; exact World.drewN_drewN _ _ _⟩, unhide HY (by rw [h1, h2]; rfl)⟩
    · have hkk : k = 4 := by omega
      subst hkk
      have o1 := unhide HA 0 (by omega)
      have o2 := unhide HA 1 (by omega)
      have o3 := unhide HA 2 (by omega)
      have o4 := unhide HA 3 (by omega)
      have e5 : ok = !(FloatKind.f64.format.order d 0 == some .eq) := by
        rw [unhide EOK, squatOk, show okF s = true from o1, show okF b = true from o2, show okF wd = true from o3, show okF d = true from o4]
        simp
      have ESQ : Hid (ok = false → squatOf s b wd d = 0) := fun h => by rw [squatOf, if_neg (by rw [← unhide EOK, h]; simp)]
      have EST : Hid (ok = true → squatOf s b wd d = fop .quo .f64 (fop .mul .f64 (fop .mul .f64 (fop .mul .f64 s s) b) (fop .add .f64 one64 (fop .quo .f64 wd d))) hundred64) := fun h => by rw [squatOf, if_pos (by rw [← unhide EOK, h])]
      clear o1 o2 o3 o4 hall hq HO HNO
      cases h5 : (FloatKind.f64.format.order d 0 == some .eq) with
      | true =>
        have z1 : ok = false := by rw [e5, h5]; rfl
        clear e5
        subst z1
        go_wp2
        refine bodyPost_ret (v := .tuple #[.float .f64 0, .bool false]) (by simp [results, Try.results38, go_sem]) rfl ⟨0, rfl, by rw [unhide ESQ (by simp)]; exact fsame.refl _ _, ?_⟩
        rw [unhide HQ]
        exact below_drewN (unhide HW0) _
      | false =>
        have z1 : ok = true := by rw [e5, h5]; rfl
        clear e5
        subst z1
        go_wp2_with (refine wpList_float rfl _ _ _ _ _ rfl rfl .f64 _ _ rfl rfl ?_; intro r n hr)
        rename_i r1 n1 h1 r2 n2 h2 r3 n3 h3 r4 n4 h4 r5 n5 h6
        refine bodyPost_ret (v := .tuple #[.float .f64 r, .bool true]) (by simp [results, Try.results38, go_sem]) rfl ⟨r, rfl, ?_, ?_⟩
        · rw [unhide EST (by simp)]
          exact fop_to hr (fop_to h6 (fop_to h2 h1 (fsame.refl _ _)) (fop_to h4 (fsame.refl _ _) h3)) (fsame.refl _ _)
        · rw [unhide HQ]
          exact below_drewN (below_drewN (unhide HW0) _) _

end Go.Proofs.Ytglehiakikhlaaa
