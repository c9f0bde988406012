/- The program's phases: a row of complex numbers; contract of startsOf. -/
import Derived.Test.YtglehiakikhlaaaTdI
import Derived.Test.YtglehiakikhlaaaFlI2
import Derived.Test.YtglehiakikhlaaaOwM
namespace Go.Proofs.Ytglehiakikhlaaa
open Go.RowKit

attribute [local go_sem] run_store_float run_store_complex

def cE (p : F2) : Value := .complex .f64 p.1 p.2
def startOf (h : F4) : F2 := (h.1, h.2.1)
theorem Try.infoC128 : (Try.prog.info? 84).map (fun i => (i.zero, i.size, i.bytes)) = some (some (.complex .f64 0 0), 1, 16) := by kernel_rfl

set_option maxRecDepth 10000 in
set_option maxHeartbeats 4000000 in
theorem startsOf_any (v : Value) (L : List F4) (w : World) (h : RH w v L) (h8 : L.length ≤ 8) :
    Calls Try.prog 52 #[v] w fun e w' => ∃ g, e = .returned (.slice (some ⟨g, 0, none⟩) L.length L.length) ∧ w.heap.size ≤ g ∧ OwnV w' g ((L.map startOf).map cE) ∧ Below w.heap.size w w' := by
  obtain ⟨ao, cap, rfl, hl, hm, hc⟩ := h
  unfold maxLen at hm
  have HC := hide hc
  clear hc
  have h8i : (L.length : Int) ≤ 8 := by omega
  have hmk := run_make_row' (P := Try.prog) 82 84 (.complex .f64 0 0) 16 Try.underlying82 Try.infoC128 rfl .i64 .i64 L.length (by omega) (by omega)
  have HF0 := hide (fill_made cE w (.complex .f64 0 0) L.length 84)
  go_enter Try.func52, Try.ntmps52
  go_wp2
  clear hmk
  go_loopg [11] L.length (fun g i wr => ∃ k : Nat, k ≤ L.length ∧ g = L.length - k ∧ i = .int .i64 k ∧ ∃ ys, ys = (L.take k).map startOf ∧ ys.length = k ∧ FilE cE (.complex .f64 0 0) L.length w.heap.size w wr ys)
  case atStart => exact ⟨0, Nat.zero_le _, rfl, rfl, [], rfl, rfl, unhide HF0⟩
  case round =>
    obtain ⟨k, hk, rfl, rfl, ys, hys, hyl, hF⟩ := hrel
    have HG := hide hF
    have HY := hide hys
    have HYL := hide hyl
    clear hF hys HF0
    by_cases hkn : k < L.length
    · obtain ⟨b, o, x, y, z, p, rfl, hx, hy, hz, hp, EX⟩ := recHAt (unhide HC) hkn
      have g0 := ((unhide HG).below.cell (lt_of_cell hx)).trans hx
      have g1 := ((unhide HG).below.cell (lt_of_cell hy)).trans hy
      have g2 := ((unhide HG).below.cell (lt_of_cell hz)).trans hz
      have g3 := ((unhide HG).below.cell (lt_of_cell hp)).trans hp
      have ET : Hid ((L.take (k + 1)).map startOf = (L.take k).map startOf ++ [(x, y)]) := by show _ = _; rw [take_snoc L hkn, List.map_append, unhide EX]; rfl
      have hki : (k : Int) < L.length := by omega
      have HN := hide fun V => waveNumber_any x y V
      unfold vW at HN
      have A := Below.alloc1 wr (.cells #[.float .f64 x, .float .f64 y, .float .f64 z, .float .f64 p] 41)
      replace HG := hide ((unhide HG).step A)
      clear hx hy hz hp EX A hyl
      go_wp2_with fail
      refine (unhide HN _).mono ?_
      rintro e w1 ⟨rfl, hb⟩
      replace HG := hide ((unhide HG).step hb)
      have q1 := (unhide HG).lt (by have := unhide HYL; omega)
      have q2 := (unhide HG).own.frozen k
      rw [unhide HYL] at q1
      clear hb HN g0 g1 g2 g3
      go_wp2
      go_roundg (L.length - (k + 1))
      case measure => omega
      case rel =>
        have hk1 := unhide HYL
        subst hk1
        exact ⟨ys.length + 1, by omega, rfl, by go_num, ys ++ [(x, y)], by rw [unhide ET, ← unhide HY], by simp, (unhide HG).next hkn (x, y)⟩
    · have hkk : k = L.length := by omega
      subst hkk
      rw [List.take_length] at HY
      have HO := hide (unhide HG).own
      rw [rowTo_full hyl, unhide HY] at HO
      have HB := hide (unhide HG).below
      clear HG hyl
      go_wp2
      go_ret
      exact ⟨_, rfl, Nat.le_refl _, unhide HO, unhide HB⟩

end Go.Proofs.Ytglehiakikhlaaa
