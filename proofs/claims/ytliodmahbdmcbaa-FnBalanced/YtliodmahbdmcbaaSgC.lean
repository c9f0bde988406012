/- Contracts of both sides' Bending4. -/
import Derived.Test.YtliodmahbdmcbaaSgBs
namespace Go.Proofs.Ytliodmahbdmcbaa
open Go.RowKit

theorem beOk_r {W B : List Int} {st : Int} (h : beOk W B st = true) : ShR W B ∧ 1 ≤ st ∧ st ≤ 100 := by
  simp only [beOk, Bool.and_eq_true] at h
  exact ⟨shOk_r h.1, inB_true h.2⟩

/-- The shears lie where they were told, from 0 to the last. -/
theorem shear_cells {B0 : Nat} {w : World} {ao : Option Addr} {n cap : Nat} {W B : List Int} (h : OwnSl B0 w (.slice ao n cap) (shear W B)) (hok : shOk W B = true) :
    n = W.length + 1 ∧ ∃ g, ao = some ⟨g, 0, none⟩ ∧ g < w.heap.size ∧ ∀ k, k < n → w.cell? ⟨g, k, none⟩ = some (.int .i64 (shAt W B k)) := by
  have e : shear W B = (List.range (W.length + 1)).map (shAt W B) := by simp [shear, hok]
  rw [e] at h
  obtain ⟨ao', cap', hv, h1, h2, h3⟩ := h
  simp only [Value.slice.injEq] at hv
  obtain ⟨rfl, hn, rfl⟩ := hv
  rw [range_len] at hn
  obtain ⟨g, rfl, _, ho⟩ := h3 (by simp [List.range_succ])
  refine ⟨hn, g, rfl, ho.lt, fun k hk => ?_⟩
  have := ho.cell (ints_get ((List.range (W.length + 1)).map (shAt W B)) (i := k) (by rw [range_len]; omega))
  rw [this]
  congr 2
  simp [List.getD, show k < W.length + 1 by omega]

set_option maxHeartbeats 1000000 in
theorem implBending4_any (v v' : Value) (W B : List Int) (st : Int) (w : World) (h : IntsIn w v W) (h' : IntsIn w v' B) :
    Calls Try.prog 17 #[v, v', .int .i64 st] w fun e w' => ∃ ao n cap, e = .returned (.tuple #[.slice ao n cap, .bool (beOk W B st)]) ∧ OwnSl w.heap.size w' (.slice ao n cap) (bend W B st) ∧ Below w.heap.size w w' := by
  have HV := hide h
  have HV' := hide h'
  obtain ⟨ao, cap, rfl, hl, hm, hc⟩ := h
  obtain ⟨ao', cap', rfl, hl', hm', hc'⟩ := h'
  unfold maxLen at hm hm'
  clear hc hc'
  go_enter Try.func17, Try.ntmps17
  go_wp2_with fail
  refine (implShear2_any _ _ W B _ (unhide HV) (unhide HV')).mono ?_
  rintro e w1 ⟨a1, n1, c1, rfl, ho, hb⟩
  have HO := hide ho
  have HW := hide hb
  clear ho hb
  cases hok : beOk W B st with
  | false =>
    have HF : Hid (bend W B st = []) := by show _ = _; simp [bend, hok]
    have HK := hide hok
    simp only [beOk, Bool.and_eq_false_iff] at hok
    cases h1 : shOk W B <;> cases h2 : inB st 1 100
    case true.true => rw [h1, h2] at hok; simp at hok
    all_goals
      clear hok
      go_wp2_with (go_at_call 43; refine (within_any _ _ _ _).mono ?_; rintro e w9 ⟨rfl, h9⟩; have h8 := h9.symm; subst h8; clear h9)
      refine bodyPost_ret (v := .tuple #[.slice none 0 0, .bool false]) (by simp [results, Try.results17, go_sem]) rfl ⟨none, 0, 0, by rw [unhide HK], ?_, unhide HW⟩
      rw [unhide HF]
      exact ⟨none, 0, rfl, Nat.le_refl _, Nat.zero_le _, fun h => absurd rfl h⟩
  | true =>
    have HF : Hid (bend W B st = (List.range (W.length + 1)).map (beAt W B st)) := by show _ = _; simp [bend, hok]
    have HK := hide hok
    have hR := (beOk_r hok).1
    have hst := (beOk_r hok).2
    simp only [beOk, Bool.and_eq_true] at hok
    obtain ⟨hsh, hin⟩ := hok
    obtain ⟨hn, g, rfl, hg, hcells⟩ := shear_cells (unhide HO) hsh
    have HN := hide hn
    have HC := hide hcells
    have hn1 : W.length < n1 := by omega
    have hn2 : n1 ≤ 41 := by have := hR.len; omega
    rw [← hn] at HF
    clear hn hcells HO
    have HR := hide hR
    have hlen := hR.len
    clear hR
    have hmk := run_make_row' (P := Try.prog) 24 3 (.int .i64 0) 8 Try.underlying24 Try.info3 rfl .i64 .i64 n1 (by omega) (by omega)
    go_wp2_with (go_at_call 43; refine (within_any _ _ _ _).mono ?_; rintro e w9 ⟨rfl, h9⟩; have h8 := h9.symm; subst h8; clear h9)
    clear hmk hsh hin
    go_loopg [30] W.length (fun g i wr => ∃ k : Nat, k ≤ W.length ∧ g = W.length - k ∧ i = .int .i64 k ∧ FillS w1 wr (beAt W B st) n1 (k + 1))
    case atStart => exact ⟨0, Nat.zero_le _, rfl, rfl, fillS_one _ _ _ rfl⟩
    case round =>
      obtain ⟨k, hk, rfl, rfl, hF⟩ := hrel
      by_cases hkn : k < W.length
      · have g1 := (hF.below.cell hg).trans (unhide HC k (by omega))
        have g2 := (hF.below.cell hg).trans (unhide HC (k + 1) (by omega))
        have g3 := hF.cell (j := k) (by omega) (by omega)
        have g4 := hF.cell0 (show k + 1 < n1 by omega)
        have g5 := hF.row.frozen (k + 1)
        have n1' : ¬ g = w1.heap.size := by omega
        have n3 : ¬ w1.heap.size = g := by omega
        have n5 : ∀ u, (wr.setCell ⟨w1.heap.size, k + 1, none⟩ u).cell? ⟨w1.heap.size, k, none⟩ = some (.int .i64 (beAt W B st k)) := fun u => (World.cell?_setCell_other _ _ _ _ (by simp)).trans g3
        have n6 : (0 : Int) ≤ (k : Int) + 1 := by omega
        have bk : (k : Int) < n1 := by omega
        have bk1 : (k : Int) + 1 < n1 := by omega
        have bk2 : IntKind.i64.wrap ((k : Int) + 1) = (k : Int) + 1 := by rw [IntKind.wrap_i64]; omega
        have bs := shAt_bd (unhide HR) (show k ≤ W.length by omega)
        have bs' := shAt_bd (unhide HR) (show k + 1 ≤ W.length by omega)
        have bb := beAt_bd (unhide HR) hst (show k ≤ W.length by omega)
        have bp := beStep_bd (unhide HR) hst hkn
        have HS := hide (fillS_step hF (Below.refl _ wr).drew)
        have ES := hide (beAt_succ W B st k)
        clear hF
        generalize beAt W B st (k + 1) = t at *
        generalize beAt W B st k = q at *
        generalize shAt W B (k + 1) = s' at *
        generalize shAt W B k = s at *
        have et : t = q + st * (s + s') := unhide ES
        clear ES
        subst et
        obtain ⟨bs1, bs2⟩ := bs
        obtain ⟨bw1, bw2⟩ := bs'
        obtain ⟨bb1, bb2⟩ := bb
        obtain ⟨bp1, bp2⟩ := bp
        have w1' : IntKind.i64.wrap (s + s') = s + s' := by rw [IntKind.wrap_i64]; omega
        have w2' : IntKind.i64.wrap (st * (s + s')) = st * (s + s') := by rw [IntKind.wrap_i64]; omega
        have w3' : IntKind.i64.wrap (q + st * (s + s')) = q + st * (s + s') := by rw [IntKind.wrap_i64]; omega
        go_wp2
        go_region_held3 (fun w' => w'.cell? ⟨g, k, none⟩ = some (.int .i64 s) ∧ w'.cell? ⟨g, k + 1, none⟩ = some (.int .i64 s') ∧ w'.cell? ⟨w1.heap.size, k, none⟩ = some (.int .i64 q)) (go_keep) (fail)
        go_wp2
        go_roundg (W.length - (k + 1))
        case measure => omega
        case rel => exact ⟨k + 1, by omega, rfl, by go_num, unhide HS⟩
      · have hkk : k = W.length := by omega
        subst hkk
        go_wp2
        rw [← unhide HN] at hF
        refine bodyPost_ret (v := .tuple #[.slice (some ⟨w1.heap.size, 0, none⟩) n1 n1, .bool true]) (by simp [results, Try.results17, go_sem]) rfl ⟨_, _, _, by rw [unhide HK], ?_, Below.step (unhide HW) hF.below⟩
        rw [unhide HF]
        exact (fillS_done hF (by unfold maxLen; omega)).mono (unhide HW).size

end Go.Proofs.Ytliodmahbdmcbaa
