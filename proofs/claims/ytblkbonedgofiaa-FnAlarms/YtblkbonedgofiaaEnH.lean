/- The program's Alarms. -/
import Derived.Test.YtblkbonedgofiaaEnG
namespace Go.Proofs.Ytblkbonedgofiaa
open Go.RowKit

def boRow (hi lo ho : Int) (xs : List Int) (n k : Nat) : List Value := (alL hi lo ho xs k ++ List.replicate (n - k) false).map Value.bool
theorem boRow_len {hi lo ho : Int} {xs : List Int} {n k : Nat} (h : k ≤ n) : (boRow hi lo ho xs n k).length = n := by simp [boRow, alL_len]; omega
theorem boRow_get {hi lo ho : Int} {xs : List Int} {n k : Nat} (h : k < n) : (boRow hi lo ho xs n k)[k]? = some (.bool false) := by
  have h0 : 0 < n - k := by omega
  simp [boRow, alL_len, h0]
theorem boRow_set {hi lo ho : Int} {xs : List Int} {n k : Nat} (h : k < n) : (boRow hi lo ho xs n k).set k (.bool (alS hi lo ho xs (k + 1)).1) = boRow hi lo ho xs n (k + 1) := by
  obtain ⟨d, hd⟩ : ∃ d, n - k = d + 1 := ⟨n - k - 1, by omega⟩
  have hd' : n - (k + 1) = d := by omega
  unfold boRow
  rw [hd, hd', List.replicate_succ, alL_next, List.map_append, List.map_append, List.set_append]
  simp [alL_len]
theorem boRow_done (hi lo ho : Int) (xs : List Int) (n : Nat) : boRow hi lo ho xs n n = (alL hi lo ho xs n).map Value.bool := by simp [boRow]
theorem bo_made (hi lo ho : Int) (xs : List Int) (n : Nat) : (madeCells #[Value.bool false] n).toList = boRow hi lo ho xs n 0 := by
  apply List.ext_getElem?
  intro i
  by_cases h : i < n
  · simp [madeCells, boRow, alL, h, Nat.mod_one]
  · simp [madeCells, boRow, alL, h]

set_option maxRecDepth 100000 in
set_option maxHeartbeats 8000000 in
theorem implAlarms_any (hi lo ho : Int) (v : Value) (xs : List Int) (w : World) (h : IntsIn w v xs) :
    Calls Try.prog 18 #[v3 (hi, lo, ho), v] w fun e w' => ∃ a n cp, e = .returned (.tuple #[.slice a n cp, .bool (alarmB hi lo ho xs)]) ∧ OwnBo w.heap.size w' (.slice a n cp) (alarmL hi lo ho xs) ∧ Below w.heap.size w w' := by
  obtain ⟨ao, cap, rfl, hl, hm, hc⟩ := h
  unfold maxLen at hm
  have HC := hide hc
  clear hc
  have HW := hide (Below.alloc1 w (.cells #[.int .i64 hi, .int .i64 lo, .int .i64 ho] 34))
  have HB := hide (ownV_alloc w #[.int .i64 hi, .int .i64 lo, .int .i64 ho] 34)
  have Q1 := hide fun V => alarmOk_any hi lo ho V
  have Q2 := hide fun V => alarmOf_any hi lo ho V
  have EV : Hid (alarmB hi lo ho xs = (ruleB hi lo ho && decide ((xs.length : Int) ≤ 500))) := rfl
  have EL : Hid (alarmL hi lo ho xs = if alarmB hi lo ho xs then alL hi lo ho xs xs.length else []) := rfl
  generalize ruleB hi lo ho = rb at Q1 EV
  unfold v3 at Q1 Q2 ⊢
  have c0 := (unhide HB).cell (i := 0) rfl
  have c1 := (unhide HB).cell (i := 1) rfl
  have c2 := (unhide HB).cell (i := 2) rfl
  go_enter Try.func18, Try.ntmps18
  go_wp2_with fail
  refine (unhide Q1 _).mono ?_
  rintro e w1 ⟨rfl, hb⟩
  replace HW := hide (Below.step (unhide HW) hb)
  replace HB := hide ((unhide HB).step hb)
  clear hb c0 c1 c2
  cases rb with
  | false =>
    have EF : Hid (alarmB hi lo ho xs = false) := by show _ = _; rw [unhide EV]; rfl
    go_wp2
    refine bodyPost_ret (v := .tuple #[.slice none 0 0, .bool false]) (by simp [results, Try.results18, go_sem]) rfl ⟨_, _, _, by rw [unhide EF], ?_, unhide HW⟩
    rw [unhide EL, unhide EF]
    exact ⟨none, 0, rfl, Nat.le_refl _, Nat.zero_le _, fun h => absurd rfl h⟩
  | true =>
  by_cases h5 : 500 < (xs.length : Int)
  · have EF : Hid (alarmB hi lo ho xs = false) := by show _ = _; rw [unhide EV, decide_eq_false (by omega)]; rfl
    go_wp2
    refine bodyPost_ret (v := .tuple #[.slice none 0 0, .bool false]) (by simp [results, Try.results18, go_sem]) rfl ⟨_, _, _, by rw [unhide EF], ?_, unhide HW⟩
    rw [unhide EL, unhide EF]
    exact ⟨none, 0, rfl, Nat.le_refl _, Nat.zero_le _, fun h => absurd rfl h⟩
  have ET : Hid (alarmB hi lo ho xs = true) := by show _ = _; rw [unhide EV, decide_eq_true (by omega)]; rfl
  have c0 := (unhide HB).cell (i := 0) rfl
  have c1 := (unhide HB).cell (i := 1) rfl
  have c2 := (unhide HB).cell (i := 2) rfl
  have hs1 := (unhide HW).size
  go_wp2_with fail
  refine (unhide Q2 _).mono ?_
  rintro e w2 ⟨rfl, hA, hb⟩
  have HA := hide hA
  have hl4 := hA.o3.lt
  replace HW := hide (Below.step (unhide HW) hb)
  clear hb hA c0 c1 c2 HB Q1 Q2
  obtain ⟨s, es⟩ : ∃ s, s = w1.heap.size := ⟨_, rfl⟩
  rw [← es] at HA hl4 hs1 ⊢
  clear es
  have hmk := run_make_row' (P := Try.prog) 38 4 (.bool false) 1 Try.underlying38 Try.infoBoolE rfl .i64 .i64 xs.length (by omega) (by omega)
  have HD0 : Hid (OwnV (w2.alloc (.cells (madeCells #[.bool false] xs.length) 4)) w2.heap.size (boRow hi lo ho xs xs.length 0)) := by
    have := ownV_alloc w2 (madeCells #[.bool false] xs.length) 4
    rw [bo_made hi lo ho xs] at this
    exact this
  have HW1 := hide (Below.step (unhide HW) (Below.alloc1 w2 (.cells (madeCells #[.bool false] xs.length) 4)))
  have HA1 := hide ((unhide HA).step (Below.alloc1 w2 (.cells (madeCells #[.bool false] xs.length) 4)))
  go_wp2
  clear hmk HW HA
  obtain ⟨g, eg⟩ : ∃ g, g = w2.heap.size := ⟨_, rfl⟩
  rw [← eg] at HD0 hl4 ⊢
  clear eg
  go_loopg [25] xs.length (fun gg iv wr => ∃ k : Nat, k ≤ xs.length ∧ gg = xs.length - k ∧ iv = .int .i64 k ∧ Hid (Below w.heap.size w wr) ∧ Hid (AlBx wr s (s + 1 + 1) (s + 1 + 1 + 1) (s + 1) hi lo ho (alS hi lo ho xs k)) ∧ Hid (OwnV wr g (boRow hi lo ho xs xs.length k)))
  case atStart => exact ⟨0, Nat.zero_le _, rfl, rfl, unhide HW1, unhide HA1, unhide HD0⟩
  case round =>
    clear HW1 HA1 HD0
    obtain ⟨k, hk, rfl, rfl, HW, HA, HD⟩ := hrel
    by_cases hkn : k < xs.length
    · obtain ⟨b, o, rfl, hcell⟩ := unhide HC k hkn
      have g0 := ((unhide HW).cell (lt_of_cell hcell)).trans hcell
      have hki : (k : Int) < xs.length := by omega
      obtain ⟨s0, s1, s2, s3⟩ := alS_bd hi lo ho xs k
      have HF := hide (alarmFn_any hi lo ho (xs.getD k 0) s (s + 1 + 1) (s + 1 + 1 + 1) (s + 1) (alS hi lo ho xs k).1 (alS hi lo ho xs k).2.1 (alS hi lo ho xs k).2.2 wr (unhide HA) s0 (by omega) s2 (by omega) (by omega) (by omega) (by omega) (by omega) (by omega) (by omega) w.heap.size (by omega) (by omega) (by omega) w (unhide HW))
      have EN : Hid (alNext hi lo ho (xs.getD k 0) ((alS hi lo ho xs k).1, (alS hi lo ho xs k).2.1, (alS hi lo ho xs k).2.2) = alS hi lo ho xs (k + 1)) := rfl
      rw [unhide EN] at HF
      have HSET := hide (boRow_set (hi := hi) (lo := lo) (ho := ho) (xs := xs) hkn)
      have HLN := hide (boRow_len (hi := hi) (lo := lo) (ho := ho) (xs := xs) (n := xs.length) hk)
      have HGT := hide (boRow_get (hi := hi) (lo := lo) (ho := ho) (xs := xs) hkn)
      clear EN hcell s0 s1 s2 s3
      generalize xs.getD k 0 = x at *
      obtain ⟨st, est⟩ : ∃ st, st = alS hi lo ho xs (k + 1) := ⟨_, rfl⟩
      rw [← est] at HF HSET
      have EST := hide est
      clear est
      go_wp2_with fail
      refine (unhide HF).mono ?_
      rintro e w3 ⟨rfl, hA, hBW, hkp⟩
      have HD1 := hide ((unhide HD).kept hkp (fun e => by omega))
      have fz := (unhide HD1).frozen k
      have ck := (unhide HD1).cell (unhide HGT)
      have HW3 := hide (hBW.setCell (p := ⟨g, k, none⟩) (show w.heap.size ≤ g by omega) (.bool st.1))
      have HA3 := hide (hA.far (g := g) (by omega) (by omega) (by omega) (by omega) k (.bool st.1))
      have HD3 := hide ((unhide HD1).set k (.bool st.1) (by rw [unhide HLN]; exact hkn))
      rw [unhide HSET] at HD3
      clear hA hBW hkp HD HD1 HF HA HW HSET HLN HGT
      go_wp2
      go_roundg (xs.length - (k + 1))
      case measure => omega
      case rel => exact ⟨k + 1, by omega, rfl, by go_num, unhide HW3, by rw [← unhide EST]; exact unhide HA3, unhide HD3⟩
    · obtain rfl : k = xs.length := by omega
      go_wp2
      refine bodyPost_ret (v := .tuple #[.slice (some ⟨g, 0, none⟩) xs.length xs.length, .bool true]) (by simp [results, Try.results18, go_sem]) rfl ⟨_, _, _, by rw [unhide ET], ?_, unhide HW⟩
      rw [unhide EL, unhide ET, if_pos rfl]
      have hD := unhide HD
      rw [boRow_done] at hD
      exact ⟨_, xs.length, by rw [alL_len], by rw [alL_len]; exact Nat.le_refl _, by unfold maxLen; omega, fun _ => ⟨g, rfl, by omega, hD⟩⟩

end Go.Proofs.Ytblkbonedgofiaa
