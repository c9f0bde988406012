/- Contracts of the laws' own markSea and heldSea. -/
import Derived.Test.YtdpcacfgbjllhaaSeA
import Derived.Test.YtdpcacfgbjllhaaWalkQ
namespace Go.Proofs.Ytdpcacfgbjllhaa
open Go.RowKit

theorem markClosedS_nil (ao : Option Addr) (cap : Nat) (k : Int) (w : World) : Calls Try.prog 54 #[.slice ao 0 cap, .int .i64 k] w fun e w' => e = .returned (.int .i64 k) ∧ w = w' := by
  go_enter Try.func54, Try.ntmps54
  go_wp2
  go_loopg [1, 5] 0 (fun _ kv iv wr => w = wr ∧ iv = .int .i64 0 ∧ kv = .int .i64 k)
  case atStart => exact ⟨rfl, rfl, rfl⟩
  case round =>
    obtain ⟨rfl, rfl, rfl⟩ := hrel
    go_wp2
    go_ret
    exact ⟨rfl, rfl⟩
/-- A list of features at block g, where there is one. -/
def ClAt (w : World) (ao : Option Addr) (g : Nat) (vs : List Value) (F : List ClosedT) : Prop := F ≠ [] → ao = some ⟨g, 0, none⟩ ∧ OwnV w g vs
def clMarks (k : Int) (n : Nat) : List Value := (List.range (n * 6)).map (mkClosed k)

theorem markClosedS_o (ao : Option Addr) (cap : Nat) (F : List ClosedT) (k : Int) (g : Nat) (w : World) (h : ClAt w ao g (recCells 6 eClosed F) F) (hn : F.length ≤ 1048576) (hk0 : 0 ≤ k) (hk1 : k ≤ 1152921504606846976) :
    Calls Try.prog 54 #[.slice ao F.length cap, .int .i64 k] w fun e w' => e = .returned (.int .i64 (k + 6 * (F.length : Int))) ∧ Kept (fun b => b = g ∧ F ≠ []) w w' ∧ ClAt w' ao g (clMarks k F.length) F := by
  by_cases hne : F = []
  · subst hne
    refine (markClosedS_nil ao cap k w).mono ?_
    rintro e w' ⟨rfl, rfl⟩
    exact ⟨by simp, Kept.refl _ _, fun h => absurd rfl h⟩
  · obtain ⟨rfl, ho⟩ := h hne
    refine (markClosedS_any g cap F.length _ k w ho (by rw [recCells_length]; omega) hn hk0 hk1).mono ?_
    rintro e w' ⟨rfl, hk, ho'⟩
    exact ⟨rfl, hk.mono (fun b _ hb => ⟨hb, hne⟩), fun _ => ⟨rfl, ho'⟩⟩
theorem ClAt.step {w w' : World} {ao : Option Addr} {g : Nat} {vs : List Value} {F : List ClosedT} (h : ClAt w ao g vs F) (hb : Below w.heap.size w w') : ClAt w' ao g vs F := fun hne => ⟨(h hne).1, (h hne).2.step hb⟩
theorem ClAt.kept {T : Nat → Prop} {w w' : World} {ao : Option Addr} {g : Nat} {vs : List Value} {F : List ClosedT} (h : ClAt w ao g vs F) (hk : Kept T w w') (hg : ¬ T g) : ClAt w' ao g vs F := fun hne => ⟨(h hne).1, (h hne).2.kept hk hg⟩

set_option maxHeartbeats 1600000 in
theorem markSea_any (wd hg : Int) (dao : Option Addr) (dc : Nat) (fao : Option Addr) (fc : Nat) (D : List Int) (F : List ClosedT) (g1 g2 : Nat) (k : Int) (w : World) (h1 : D ≠ [] → dao = some ⟨g1, 0, none⟩ ∧ OwnV w g1 (ints D)) (h2 : ClAt w fao g2 (recCells 6 eClosed F) F)
    (hne : g1 ≠ g2) (hl1 : g1 < w.heap.size) (hD : D.length ≤ 1048576) (hF : F.length ≤ 1048576) (hk0 : 0 ≤ k) (hk1 : k ≤ 1073741824) :
    Calls Try.prog 22 #[vSea wd hg (.slice dao D.length dc) (.slice fao F.length fc), .int .i64 k] w fun e w' => e = .returned (.int .i64 (k + D.length + 6 * (F.length : Int))) ∧ Kept (fun b => b = g1 ∨ b = g2) w w' ∧ (D ≠ [] → OwnV w' g1 (ints (marks k D.length))) ∧ ClAt w' fao g2 (clMarks (k + D.length) F.length) F := by
  have A := Below.alloc1 w (.cells #[.int .i64 wd, .int .i64 hg, .slice dao D.length dc, .slice fao F.length fc] 27)
  have HO := hide (ownV_alloc w #[.int .i64 wd, .int .i64 hg, .slice dao D.length dc, .slice fao F.length fc] 27)
  have HM1 := hide (markIntS_any dao dc D k g1 _ (fun h => ⟨(h1 h).1, (h1 h).2.step A⟩) hD hk0 (by omega))
  have H2 := hide (h2.step A)
  have HK := hide (kept_of_below (T := fun b => b = g1 ∨ b = g2) A)
  clear A h1 h2
  unfold vSea
  go_enter Try.func22, Try.ntmps22
  go_wp2_with fail
  refine (unhide HM1).mono ?_
  rintro e w1 ⟨rfl, hk, ho1⟩
  have c3 := OwnV.cell (OwnV.kept (unhide HO) hk (by omega)) (i := 3) rfl
  have H2' := hide ((unhide H2).kept hk (by omega))
  have HK1 := hide (Kept.trans (unhide HK) (hk.mono (fun b _ hb => Or.inl hb.1)))
  have HO1 := hide ho1
  clear hk ho1 HM1 HO H2 HK
  have HM2 := hide (markClosedS_o fao fc F (k + D.length) g2 w1 (unhide H2') hF (by omega) (by omega))
  go_wp2_with fail
  refine (unhide HM2).mono ?_
  rintro e w2 ⟨rfl, hk, ho2⟩
  have HK2 := hide (Kept.trans (unhide HK1) (hk.mono (fun b _ hb => Or.inr hb.1)))
  have HO1' : Hid (D ≠ [] → OwnV w2 g1 (ints (marks k D.length))) := fun h => OwnV.kept (unhide HO1 h) hk (by omega)
  have HO2 := hide ho2
  clear hk ho2 HM2 HO1 HK1 H2' c3
  go_wp2
  go_ret
  exact ⟨rfl, unhide HK2, unhide HO1', unhide HO2⟩

end Go.Proofs.Ytdpcacfgbjllhaa
