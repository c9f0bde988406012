/- Contracts of the laws' own markChart and heldChart. -/
import Derived.Test.YtoonbidopdflkaaChA
import Derived.Test.YtoonbidopdflkaaWalkQ
namespace Go.Proofs.Ytoonbidopdflkaa
open Go.RowKit

theorem markFeatureS_nil (ao : Option Addr) (cap : Nat) (k : Int) (w : World) : Calls Try.prog 84 #[.slice ao 0 cap, .int .i64 k] w fun e w' => e = .returned (.int .i64 k) ∧ w = w' := by
  go_enter Try.func84, Try.ntmps84
  go_wp2
  go_loopg [1, 5] 0 (fun _ kv iv wr => w = wr ∧ iv = .int .i64 0 ∧ kv = .int .i64 k)
  case atStart => exact ⟨rfl, rfl, rfl⟩
  case round =>
    obtain ⟨rfl, rfl, rfl⟩ := hrel
    go_wp2
    go_ret
    exact ⟨rfl, rfl⟩
theorem heldFeatureS_nil (ao : Option Addr) (cap : Nat) (k : Int) (w : World) : Calls Try.prog 86 #[.slice ao 0 cap, .int .i64 k] w fun e w' => e = .returned (.int .i64 k) ∧ Below w.heap.size w w' := by
  go_enter Try.func86, Try.ntmps86
  go_wp2
  go_loopg [1, 5] 0 (fun _ kv iv wr => w = wr ∧ iv = .int .i64 0 ∧ kv = .int .i64 k)
  case atStart => exact ⟨rfl, rfl, rfl⟩
  case round =>
    obtain ⟨rfl, rfl, rfl⟩ := hrel
    go_wp2
    go_ret
    exact ⟨rfl, Below.refl _ _⟩

/-- A list of features at block g, where there is one. -/
def FeAt (w : World) (ao : Option Addr) (g : Nat) (vs : List Value) (F : List FeatureT) : Prop := F ≠ [] → ao = some ⟨g, 0, none⟩ ∧ OwnV w g vs
def feMarks (k : Int) (n : Nat) : List Value := (List.range (n * 5)).map (mkFeature k)

theorem markFeatureS_o (ao : Option Addr) (cap : Nat) (F : List FeatureT) (k : Int) (g : Nat) (w : World) (h : FeAt w ao g (recCells 5 eFeature F) F) (hn : F.length ≤ 1048576) (hk0 : 0 ≤ k) (hk1 : k ≤ 1152921504606846976) :
    Calls Try.prog 84 #[.slice ao F.length cap, .int .i64 k] w fun e w' => e = .returned (.int .i64 (k + 5 * (F.length : Int))) ∧ Kept (fun b => b = g ∧ F ≠ []) w w' ∧ FeAt w' ao g (feMarks k F.length) F := by
  by_cases hne : F = []
  · subst hne
    refine (markFeatureS_nil ao cap k w).mono ?_
    rintro e w' ⟨rfl, rfl⟩
    exact ⟨by simp, Kept.refl _ _, fun h => absurd rfl h⟩
  · obtain ⟨rfl, ho⟩ := h hne
    refine (markFeatureS_any g cap F.length _ k w ho (by rw [recCells_length]; omega) hn hk0 hk1).mono ?_
    rintro e w' ⟨rfl, hk, ho'⟩
    exact ⟨rfl, hk.mono (fun b _ hb => ⟨hb, hne⟩), fun _ => ⟨rfl, ho'⟩⟩
theorem heldFeatureS_o (ao : Option Addr) (cap : Nat) (F : List FeatureT) (k : Int) (g : Nat) (w : World) (h : FeAt w ao g (feMarks k F.length) F) (hn : F.length ≤ 1048576) (hk0 : 0 ≤ k) (hk1 : k ≤ 1152921504606846976) :
    Calls Try.prog 86 #[.slice ao F.length cap, .int .i64 k] w fun e w' => e = .returned (.int .i64 (k + 5 * (F.length : Int))) ∧ Below w.heap.size w w' := by
  by_cases hne : F = []
  · subst hne
    refine (heldFeatureS_nil ao cap k w).mono ?_
    rintro e w' ⟨rfl, hb⟩
    exact ⟨by simp, hb⟩
  · obtain ⟨rfl, ho⟩ := h hne
    exact heldFeatureS_any g cap F.length k w ho hn hk0 hk1

theorem FeAt.step {w w' : World} {ao : Option Addr} {g : Nat} {vs : List Value} {F : List FeatureT} (h : FeAt w ao g vs F) (hb : Below w.heap.size w w') : FeAt w' ao g vs F := fun hne => ⟨(h hne).1, (h hne).2.step hb⟩
theorem FeAt.kept {T : Nat → Prop} {w w' : World} {ao : Option Addr} {g : Nat} {vs : List Value} {F : List FeatureT} (h : FeAt w ao g vs F) (hk : Kept T w w') (hg : ¬ T g) : FeAt w' ao g vs F := fun hne => ⟨(h hne).1, (h hne).2.kept hk hg⟩

set_option maxHeartbeats 1600000 in
theorem markChart_any (wd hg ed : Int) (dao : Option Addr) (dc : Nat) (fao : Option Addr) (fc : Nat) (D : List Int) (F : List FeatureT) (g1 g2 : Nat) (k : Int) (w : World) (h1 : D ≠ [] → dao = some ⟨g1, 0, none⟩ ∧ OwnV w g1 (ints D)) (h2 : FeAt w fao g2 (recCells 5 eFeature F) F)
    (hne : g1 ≠ g2) (hl1 : g1 < w.heap.size) (hD : D.length ≤ 1048576) (hF : F.length ≤ 1048576) (hk0 : 0 ≤ k) (hk1 : k ≤ 1073741824) :
    Calls Try.prog 32 #[vChart wd hg (.slice dao D.length dc) (.slice fao F.length fc) ed, .int .i64 k] w fun e w' => e = .returned (.int .i64 (k + D.length + 5 * (F.length : Int))) ∧ Kept (fun b => b = g1 ∨ b = g2) w w' ∧ (D ≠ [] → OwnV w' g1 (ints (marks k D.length))) ∧ FeAt w' fao g2 (feMarks (k + D.length) F.length) F := by
  have A := Below.alloc1 w (.cells #[.int .i64 wd, .int .i64 hg, .slice dao D.length dc, .slice fao F.length fc, .int .i64 ed] 27)
  have HO := hide (ownV_alloc w #[.int .i64 wd, .int .i64 hg, .slice dao D.length dc, .slice fao F.length fc, .int .i64 ed] 27)
  have HM1 := hide (markIntS_any dao dc D k g1 _ (fun h => ⟨(h1 h).1, (h1 h).2.step A⟩) hD hk0 (by omega))
  have H2 := hide (h2.step A)
  have HK := hide (kept_of_below (T := fun b => b = g1 ∨ b = g2) A)
  clear A h1 h2
  unfold vChart
  go_enter Try.func32, Try.ntmps32
  go_wp2_with fail
  refine (unhide HM1).mono ?_
  rintro e w1 ⟨rfl, hk, ho1⟩
  have c3 := OwnV.cell (OwnV.kept (unhide HO) hk (by omega)) (i := 3) rfl
  have H2' := hide ((unhide H2).kept hk (by omega))
  have HK1 := hide (Kept.trans (unhide HK) (hk.mono (fun b _ hb => Or.inl hb.1)))
  have HO1 := hide ho1
  clear hk ho1 HM1 HO H2 HK
  have HM2 := hide (markFeatureS_o fao fc F (k + D.length) g2 w1 (unhide H2') hF (by omega) (by omega))
  go_wp2_with fail
  refine (unhide HM2).mono ?_
  rintro e w2 ⟨rfl, hk, ho2⟩
  have HK2 := hide (Kept.trans (unhide HK1) (hk.mono (fun b _ hb => Or.inr hb.1)))
  have HO1' : Hid (D ≠ [] → OwnV w2 g1 (ints (marks k D.length))) := fun h => OwnV.kept (unhide HO1 h) hk (by omega)
  have HO2 := hide ho2
  clear hk ho2 HM2 HO1 HK1 H2' c3
  go_wp2
  go_ret
  exact ⟨rfl, unhide HK2, unhide HO1', unhide HO2⟩

set_option maxHeartbeats 1600000 in
theorem heldChart_any (wd hg ed : Int) (dao : Option Addr) (dc : Nat) (fao : Option Addr) (fc : Nat) (D : List Int) (F : List FeatureT) (g2 : Nat) (k : Int) (w : World) (h1 : IntsIn w (.slice dao D.length dc) (marks k D.length)) (h2 : FeAt w fao g2 (feMarks (k + D.length) F.length) F)
    (hD : D.length ≤ 1048576) (hF : F.length ≤ 1048576) (hk0 : 0 ≤ k) (hk1 : k ≤ 1073741824) :
    Calls Try.prog 34 #[vChart wd hg (.slice dao D.length dc) (.slice fao F.length fc) ed, .int .i64 k] w fun e w' => e = .returned (.int .i64 (k + D.length + 5 * (F.length : Int))) ∧ Below w.heap.size w w' := by
  have A := Below.alloc1 w (.cells #[.int .i64 wd, .int .i64 hg, .slice dao D.length dc, .slice fao F.length fc, .int .i64 ed] 27)
  have HM1 := hide (heldIntS_any _ (marks k D.length) k _ (h1.below A) (by rw [marks_len]) (by rw [marks_len]; exact hD) hk0 (by omega))
  rw [marks_len] at HM1
  have HM2 := hide (heldFeatureS_o fao fc F (k + D.length) g2 _ (h2.step A) hF (by omega) (by omega))
  have HW := hide A
  clear A h1 h2
  have hn1 : ¬ k + (D.length : Int) < 0 := by omega
  have hn2 : ¬ k + (D.length : Int) + 5 * (F.length : Int) < 0 := by omega
  unfold vChart
  go_enter Try.func34, Try.ntmps34
  go_wp2_with fail
  refine (unhide HM1).mono ?_
  rintro e w1 ⟨rfl, rfl⟩
  go_wp2_with fail
  refine (unhide HM2).mono ?_
  rintro e w2 ⟨rfl, hb⟩
  replace HW := hide (Below.step (unhide HW) hb)
  clear hb HM1 HM2
  go_wp2
  go_ret
  exact ⟨rfl, unhide HW⟩

end Go.Proofs.Ytoonbidopdflkaa
