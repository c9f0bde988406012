/- The specification's CargoStep. -/
import Derived.Test.YtfokocpdngokfaaCgN1
import Derived.Test.YtfokocpdngokfaaCgN2
import Derived.Test.YtfokocpdngokfaaCgN3
import Derived.Test.YtfokocpdngokfaaCgN4
import Derived.Test.YtfokocpdngokfaaCgN5
namespace Go.Proofs.Ytfokocpdngokfaa
open Go.RowKit

set_option maxRecDepth 100000 in
set_option maxHeartbeats 8000000 in
theorem specStep0_any (ao : Option Addr) (cap : Nat) (L : List CargoTankT) (k a b m lean : Int) (w : World) (h : RCargoTank w (.slice ao L.length cap) L) (hn : L.length ≤ 1048576) (hOK : cgOk L k a b m lean = false) :
    Calls Try.prog 22 #[.slice ao L.length cap, vCargoOp k a b m, .int .i64 lean] w (StepAns L k a b m lean w) := by
  have HV := hide h
  obtain ⟨-, -, -, hl, hm, -⟩ := h
  have QT := hide fun W hW => specTanksOk_any (.slice ao L.length cap) L W ((unhide HV).below hW)
  have QO := hide fun W => l13Op_any ao L.length cap k a b m W hn
  have QL := hide fun W => l1In_any lean 0 100000000 W
  have HC := hide (cgC_bad hOK)
  unfold cgOk at hOK
  have HK := hide hOK
  clear hOK
  generalize tksB L = tb at QT HK
  generalize cgOp L.length k a b m = ob at QO HK
  generalize inB lean 0 100000000 = lb at QL HK
  have HN := hide (rowB_new 33 5 eCargoTank (w.alloc (.cells #[.int .i64 k, .int .i64 a, .int .i64 b, .int .i64 m] 31)) (w.heap.size + 1) (by simp))
  have HW0 := hide (Below.step (Below.alloc1 w (.cells #[.int .i64 k, .int .i64 a, .int .i64 b, .int .i64 m] 31)) (Below.alloc1 (w.alloc (.cells #[.int .i64 k, .int .i64 a, .int .i64 b, .int .i64 m] 31)) (.cells #[] 33)))
  have HO0 := hide ((ownV_alloc w #[.int .i64 k, .int .i64 a, .int .i64 b, .int .i64 m] 31).step (Below.alloc1 (w.alloc (.cells #[.int .i64 k, .int .i64 a, .int .i64 b, .int .i64 m] 31)) (.cells #[] 33)))
  have HR0 := hide ((unhide HV).below (unhide HW0))
  have hws0 : w.heap.size + 1 ≤ ((w.alloc (.cells #[.int .i64 k, .int .i64 a, .int .i64 b, .int .i64 m] 31)).alloc (.cells #[] 33)).heap.size := by simp
  simp only [World.size_alloc] at HN
  unfold vCargoOp at QO ⊢
  go_enter Try.func22, Try.ntmps22
  go_upto_region 2 with (at_builtin; go_must (refine wpList_appAll tyTank _ rfl _ _ rfl (w.heap.size + 1) (some ⟨w.heap.size + 1, 0, none⟩) 0 0 [] rfl (unhide HN) hws0 (by omega) ao L.length cap L rfl (unhide HR0) hn ?_); intro sa sc w1 hL hK; have HSM : Hid (RowB 33 5 eCargoTank (w.heap.size + 1) w1 sa (0 + L.length) sc L) := hL; have HW := hide (onRow_belowC (unhide HW0) (unhide HN) (by omega) (by omega) hK); have HO := hide (keptRow (unhide HN) (by omega) hK (unhide HO0)); clear hL hK)
  clear HN HW0 HO0 HR0 hws0
  go_wp2_with fail
  refine (unhide QT _ (unhide HW)).mono ?_
  rintro e w2 ⟨rfl, hb⟩
  replace HW := hide (Below.step (unhide HW) hb)
  replace HO := hide ((unhide HO).step hb)
  replace HSM := hide ((unhide HSM).below hb)
  clear hb QT
  cases tb with
  | false =>
    go_wp2
    refine bodyPost_ret (v := .tuple #[.slice sa (0 + L.length) sc, .int .i64 1]) (by simp [results, Try.results22, go_sem]) rfl ?_
    exact stepAns_same (unhide HC) (by decide) (unhide HW) (unhide HSM)
  | true =>
  have c0 := (unhide HO).cell (i := 0) rfl
  have c1 := (unhide HO).cell (i := 1) rfl
  have c2 := (unhide HO).cell (i := 2) rfl
  have c3 := (unhide HO).cell (i := 3) rfl
  go_wp2_with fail
  refine (unhide QO _).mono ?_
  rintro e w4 ⟨rfl, hb⟩
  replace HW := hide (Below.step (unhide HW) hb)
  replace HSM := hide ((unhide HSM).below hb)
  clear hb QO c0 c1 c2 c3
  cases ob with
  | false =>
    go_wp2
    refine bodyPost_ret (v := .tuple #[.slice sa (0 + L.length) sc, .int .i64 1]) (by simp [results, Try.results22, go_sem]) rfl ?_
    exact stepAns_same (unhide HC) (by decide) (unhide HW) (unhide HSM)
  | true =>
  go_wp2_with fail
  refine (unhide QL _).mono ?_
  rintro e w9 ⟨rfl, h9⟩
  have h8 := h9.symm
  subst h8
  clear h9 QL
  cases lb with
  | false =>
    go_wp2
    refine bodyPost_ret (v := .tuple #[.slice sa (0 + L.length) sc, .int .i64 1]) (by simp [results, Try.results22, go_sem]) rfl ?_
    exact stepAns_same (unhide HC) (by decide) (unhide HW) (unhide HSM)
  | true => exact absurd (unhide HK) (by simp)

theorem specCargoStep_any (v : Value) (L : List CargoTankT) (k a b m lean : Int) (w : World) (h : RCargoTank w v L) (hn : L.length ≤ 1048576) :
    Calls Try.prog 22 #[v, vCargoOp k a b m, .int .i64 lean] w (StepAns L k a b m lean w) := by
  have h' := h
  obtain ⟨ao, cap, rfl, -⟩ := h'
  cases hOK : cgOk L k a b m lean with
  | false => exact specStep0_any ao cap L k a b m lean w h hn hOK
  | true =>
    have ho := hOK
    unfold cgOk at ho
    simp only [Bool.and_eq_true] at ho
    have hop := cgOp_parts ho.1.2
    obtain ⟨A, rfl⟩ : ∃ A : Nat, a = (A : Int) := ⟨a.toNat, by have := hop.a0; omega⟩
    have hk : k = 1 ∨ k = 2 ∨ k = 3 ∨ k = 4 ∨ k = 5 := by have h1 := hop.k1; have h5 := hop.k5; omega
    rcases hk with rfl | rfl | rfl | rfl | rfl
    · exact specStep1_any ao cap L A b m lean w h hn hOK
    · exact specStep2_any ao cap L A b m lean w h hn hOK
    · obtain ⟨B, rfl⟩ : ∃ B : Nat, b = (B : Int) := ⟨b.toNat, by have := hop.b0 rfl; omega⟩
      exact specStep3_any ao cap L A B m lean w h hn hOK
    · exact specStep4_any ao cap L A b m lean w h hn hOK
    · exact specStep5_any ao cap L A b m lean w h hn hOK

end Go.Proofs.Ytfokocpdngokfaa
